/- THE DOCUMENT'S Check, Plus, Trim, Norm OF THRESHOLDS. -/
import Derived.Test.YtffhbfdbahdhoabHL1
namespace Go.Proofs.Ytffhbfdbahdhoab
open Go.RowKit Go.Shelf Wd
attribute [local go_sem ↓] Go.wp_at_zero Go.wp_at_succ

set_option maxRecDepth 100000 in
theorem rck_1a (t : Int) (h : decide (-2147483647 < t) = false) (w : World) :
    Calls Try.prog 20 #[th 1 t] w fun e w' => e = .returned (.int .i64 191) ∧ Below w.heap.size w w' := by
  go_enter Try.func20, Try.ntmps20
  go_wp2
  go_ret
  exact ⟨rfl, by repeat (first | (with_reducible exact Below.refl _ _) | (with_reducible refine bl_alloc ?_ _) | (with_reducible refine Below.drew ?_) | (with_reducible refine bl_drewN ?_ _) | (with_reducible refine bl_set ?_ (by omega) _) | (with_reducible refine bl_step ?_ (by assumption)))⟩
set_option maxRecDepth 100000 in
theorem rck_1b (t : Int) (h : -2147483647 < t) (k : decide (t ≤ 2147483647) = false) (w : World) :
    Calls Try.prog 20 #[th 1 t] w fun e w' => e = .returned (.int .i64 191) ∧ Below w.heap.size w w' := by
  go_enter Try.func20, Try.ntmps20
  go_wp2
  go_ret
  exact ⟨rfl, by repeat (first | (with_reducible exact Below.refl _ _) | (with_reducible refine bl_alloc ?_ _) | (with_reducible refine Below.drew ?_) | (with_reducible refine bl_drewN ?_ _) | (with_reducible refine bl_set ?_ (by omega) _) | (with_reducible refine bl_step ?_ (by assumption)))⟩
set_option maxRecDepth 100000 in
theorem rck_1 (t : Int) (h : -2147483647 < t) (k : t ≤ 2147483647) (w : World) :
    Calls Try.prog 20 #[th 1 t] w fun e w' => e = .returned (.int .i64 0) ∧ Below w.heap.size w w' := by
  go_enter Try.func20, Try.ntmps20
  go_wp2
  go_ret
  exact ⟨rfl, by repeat (first | (with_reducible exact Below.refl _ _) | (with_reducible refine bl_alloc ?_ _) | (with_reducible refine Below.drew ?_) | (with_reducible refine bl_drewN ?_ _) | (with_reducible refine bl_set ?_ (by omega) _) | (with_reducible refine bl_step ?_ (by assumption)))⟩
set_option maxRecDepth 100000 in
theorem rck_2a (t : Int) (h : decide (-2147483647 ≤ t) = false) (w : World) :
    Calls Try.prog 20 #[th 2 t] w fun e w' => e = .returned (.int .i64 191) ∧ Below w.heap.size w w' := by
  go_enter Try.func20, Try.ntmps20
  go_wp2
  go_ret
  exact ⟨rfl, by repeat (first | (with_reducible exact Below.refl _ _) | (with_reducible refine bl_alloc ?_ _) | (with_reducible refine Below.drew ?_) | (with_reducible refine bl_drewN ?_ _) | (with_reducible refine bl_set ?_ (by omega) _) | (with_reducible refine bl_step ?_ (by assumption)))⟩
set_option maxRecDepth 100000 in
theorem rck_2b (t : Int) (h : -2147483647 ≤ t) (k : decide (t < 2147483647) = false) (w : World) :
    Calls Try.prog 20 #[th 2 t] w fun e w' => e = .returned (.int .i64 191) ∧ Below w.heap.size w w' := by
  go_enter Try.func20, Try.ntmps20
  go_wp2
  go_ret
  exact ⟨rfl, by repeat (first | (with_reducible exact Below.refl _ _) | (with_reducible refine bl_alloc ?_ _) | (with_reducible refine Below.drew ?_) | (with_reducible refine bl_drewN ?_ _) | (with_reducible refine bl_set ?_ (by omega) _) | (with_reducible refine bl_step ?_ (by assumption)))⟩
set_option maxRecDepth 100000 in
theorem rck_2 (t : Int) (h : -2147483647 ≤ t) (k : t < 2147483647) (w : World) :
    Calls Try.prog 20 #[th 2 t] w fun e w' => e = .returned (.int .i64 0) ∧ Below w.heap.size w w' := by
  go_enter Try.func20, Try.ntmps20
  go_wp2
  go_ret
  exact ⟨rfl, by repeat (first | (with_reducible exact Below.refl _ _) | (with_reducible refine bl_alloc ?_ _) | (with_reducible refine Below.drew ?_) | (with_reducible refine bl_drewN ?_ _) | (with_reducible refine bl_set ?_ (by omega) _) | (with_reducible refine bl_step ?_ (by assumption)))⟩
set_option maxRecDepth 100000 in
theorem rck_3a (t : Int) (h : (t == 0) = false) (w : World) :
    Calls Try.prog 20 #[th 3 t] w fun e w' => e = .returned (.int .i64 191) ∧ Below w.heap.size w w' := by
  go_enter Try.func20, Try.ntmps20
  go_wp2
  go_ret
  exact ⟨rfl, by repeat (first | (with_reducible exact Below.refl _ _) | (with_reducible refine bl_alloc ?_ _) | (with_reducible refine Below.drew ?_) | (with_reducible refine bl_drewN ?_ _) | (with_reducible refine bl_set ?_ (by omega) _) | (with_reducible refine bl_step ?_ (by assumption)))⟩
set_option maxRecDepth 100000 in
theorem rck_4a (t : Int) (h : (t == 0) = false) (w : World) :
    Calls Try.prog 20 #[th 4 t] w fun e w' => e = .returned (.int .i64 191) ∧ Below w.heap.size w w' := by
  go_enter Try.func20, Try.ntmps20
  go_wp2
  go_ret
  exact ⟨rfl, by repeat (first | (with_reducible exact Below.refl _ _) | (with_reducible refine bl_alloc ?_ _) | (with_reducible refine Below.drew ?_) | (with_reducible refine bl_drewN ?_ _) | (with_reducible refine bl_set ?_ (by omega) _) | (with_reducible refine bl_step ?_ (by assumption)))⟩
set_option maxRecDepth 100000 in
theorem rck_3 (w : World) :
    Calls Try.prog 20 #[th 3 0] w fun e w' => e = .returned (.int .i64 0) ∧ Below w.heap.size w w' := by
  go_enter Try.func20, Try.ntmps20
  go_wp2
  go_ret
  exact ⟨rfl, by repeat (first | (with_reducible exact Below.refl _ _) | (with_reducible refine bl_alloc ?_ _) | (with_reducible refine Below.drew ?_) | (with_reducible refine bl_drewN ?_ _) | (with_reducible refine bl_set ?_ (by omega) _) | (with_reducible refine bl_step ?_ (by assumption)))⟩
set_option maxRecDepth 100000 in
theorem rck_4 (w : World) :
    Calls Try.prog 20 #[th 4 0] w fun e w' => e = .returned (.int .i64 0) ∧ Below w.heap.size w w' := by
  go_enter Try.func20, Try.ntmps20
  go_wp2
  go_ret
  exact ⟨rfl, by repeat (first | (with_reducible exact Below.refl _ _) | (with_reducible refine bl_alloc ?_ _) | (with_reducible refine Below.drew ?_) | (with_reducible refine bl_drewN ?_ _) | (with_reducible refine bl_set ?_ (by omega) _) | (with_reducible refine bl_step ?_ (by assumption)))⟩
set_option maxRecDepth 100000 in
theorem rck_no (m t : Int) (h1 : (m == 1) = false) (h2 : (m == 2) = false) (h3 : (m == 3) = false) (h4 : (m == 4) = false) (w : World) :
    Calls Try.prog 20 #[th m t] w fun e w' => e = .returned (.int .i64 191) ∧ Below w.heap.size w w' := by
  go_enter Try.func20, Try.ntmps20
  go_wp2
  go_ret
  exact ⟨rfl, by repeat (first | (with_reducible exact Below.refl _ _) | (with_reducible refine bl_alloc ?_ _) | (with_reducible refine Below.drew ?_) | (with_reducible refine bl_drewN ?_ _) | (with_reducible refine bl_set ?_ (by omega) _) | (with_reducible refine bl_step ?_ (by assumption)))⟩
theorem rck_any (m t : Int) (w : World) :
    Calls Try.prog 20 #[th m t] w fun e w' => e = .returned (.int .i64 (ckT m t)) ∧ Below w.heap.size w w' := by
  by_cases h1 : m = 1
  · subst h1
    by_cases h : -2147483647 < t
    · by_cases k : t ≤ 2147483647
      · rw [ckT_ok (.inl ⟨rfl, h, k⟩)]; exact rck_1 t h k w
      · rw [ckT_no (by unfold okT; omega)]; exact rck_1b t h (decide_eq_false k) w
    · rw [ckT_no (by unfold okT; omega)]; exact rck_1a t (decide_eq_false h) w
  by_cases h2 : m = 2
  · subst h2
    by_cases h : -2147483647 ≤ t
    · by_cases k : t < 2147483647
      · rw [ckT_ok (.inr (.inl ⟨rfl, h, k⟩))]; exact rck_2 t h k w
      · rw [ckT_no (by unfold okT; omega)]; exact rck_2b t h (decide_eq_false k) w
    · rw [ckT_no (by unfold okT; omega)]; exact rck_2a t (decide_eq_false h) w
  by_cases h3 : m = 3
  · subst h3
    by_cases h : t = 0
    · subst h; rw [ckT_ok (by decide)]; exact rck_3 w
    · rw [ckT_no (by unfold okT; omega)]; exact rck_3a t (by simpa using h) w
  by_cases h4 : m = 4
  · subst h4
    by_cases h : t = 0
    · subst h; rw [ckT_ok (by decide)]; exact rck_4 w
    · rw [ckT_no (by unfold okT; omega)]; exact rck_4a t (by simpa using h) w
  rw [ckT_no (by unfold okT; omega)]
  exact rck_no m t (by simpa using h1) (by simpa using h2) (by simpa using h3) (by simpa using h4) w
set_option maxRecDepth 100000 in
theorem rpl_3 (t x : Int)  (w : World) :
    Calls Try.prog 19 #[th 3 t, .int .i64 x] w fun e w' => e = .returned (.bool true) ∧ Below w.heap.size w w' := by
  go_enter Try.func19, Try.ntmps19
  go_wp2
  go_ret
  exact ⟨rfl, by repeat (first | (with_reducible exact Below.refl _ _) | (with_reducible refine bl_alloc ?_ _) | (with_reducible refine Below.drew ?_) | (with_reducible refine bl_drewN ?_ _) | (with_reducible refine bl_set ?_ (by omega) _) | (with_reducible refine bl_step ?_ (by assumption)))⟩
set_option maxRecDepth 100000 in
theorem rpl_1 (t x : Int) (h : t ≤ x) (w : World) :
    Calls Try.prog 19 #[th 1 t, .int .i64 x] w fun e w' => e = .returned (.bool true) ∧ Below w.heap.size w w' := by
  go_enter Try.func19, Try.ntmps19
  go_wp2
  go_ret
  exact ⟨rfl, by repeat (first | (with_reducible exact Below.refl _ _) | (with_reducible refine bl_alloc ?_ _) | (with_reducible refine Below.drew ?_) | (with_reducible refine bl_drewN ?_ _) | (with_reducible refine bl_set ?_ (by omega) _) | (with_reducible refine bl_step ?_ (by assumption)))⟩
set_option maxRecDepth 100000 in
theorem rpl_1a (t x : Int) (h : decide (t ≤ x) = false) (w : World) :
    Calls Try.prog 19 #[th 1 t, .int .i64 x] w fun e w' => e = .returned (.bool false) ∧ Below w.heap.size w w' := by
  go_enter Try.func19, Try.ntmps19
  go_wp2
  go_ret
  exact ⟨rfl, by repeat (first | (with_reducible exact Below.refl _ _) | (with_reducible refine bl_alloc ?_ _) | (with_reducible refine Below.drew ?_) | (with_reducible refine bl_drewN ?_ _) | (with_reducible refine bl_set ?_ (by omega) _) | (with_reducible refine bl_step ?_ (by assumption)))⟩
set_option maxRecDepth 100000 in
theorem rpl_2 (t x : Int) (h : x ≤ t) (w : World) :
    Calls Try.prog 19 #[th 2 t, .int .i64 x] w fun e w' => e = .returned (.bool true) ∧ Below w.heap.size w w' := by
  go_enter Try.func19, Try.ntmps19
  go_wp2
  go_ret
  exact ⟨rfl, by repeat (first | (with_reducible exact Below.refl _ _) | (with_reducible refine bl_alloc ?_ _) | (with_reducible refine Below.drew ?_) | (with_reducible refine bl_drewN ?_ _) | (with_reducible refine bl_set ?_ (by omega) _) | (with_reducible refine bl_step ?_ (by assumption)))⟩
set_option maxRecDepth 100000 in
theorem rpl_2a (t x : Int) (h : decide (x ≤ t) = false) (w : World) :
    Calls Try.prog 19 #[th 2 t, .int .i64 x] w fun e w' => e = .returned (.bool false) ∧ Below w.heap.size w w' := by
  go_enter Try.func19, Try.ntmps19
  go_wp2
  go_ret
  exact ⟨rfl, by repeat (first | (with_reducible exact Below.refl _ _) | (with_reducible refine bl_alloc ?_ _) | (with_reducible refine Below.drew ?_) | (with_reducible refine bl_drewN ?_ _) | (with_reducible refine bl_set ?_ (by omega) _) | (with_reducible refine bl_step ?_ (by assumption)))⟩
set_option maxRecDepth 100000 in
theorem rpl_no (m t x : Int) (h1 : (m == 1) = false) (h2 : (m == 2) = false) (h3 : (m == 3) = false) (w : World) :
    Calls Try.prog 19 #[th m t, .int .i64 x] w fun e w' => e = .returned (.bool false) ∧ Below w.heap.size w w' := by
  go_enter Try.func19, Try.ntmps19
  go_wp2
  go_ret
  exact ⟨rfl, by repeat (first | (with_reducible exact Below.refl _ _) | (with_reducible refine bl_alloc ?_ _) | (with_reducible refine Below.drew ?_) | (with_reducible refine bl_drewN ?_ _) | (with_reducible refine bl_set ?_ (by omega) _) | (with_reducible refine bl_step ?_ (by assumption)))⟩
theorem rpl_any (m t x : Int) (w : World) :
    Calls Try.prog 19 #[th m t, .int .i64 x] w fun e w' => e = .returned (.bool (plT m t x)) ∧ Below w.heap.size w w' := by
  by_cases h3 : m = 3
  · subst h3; rw [plT_3]; exact rpl_3 t x w
  by_cases h1 : m = 1
  · subst h1; rw [plT_1]
    by_cases h : t ≤ x
    · rw [decide_eq_true h]; exact rpl_1 t x h w
    · rw [decide_eq_false h]; exact rpl_1a t x (decide_eq_false h) w
  by_cases h2 : m = 2
  · subst h2; rw [plT_2]
    by_cases h : x ≤ t
    · rw [decide_eq_true h]; exact rpl_2 t x h w
    · rw [decide_eq_false h]; exact rpl_2a t x (decide_eq_false h) w
  rw [plT_no h1 h2 h3]
  exact rpl_no m t x (by simpa using h1) (by simpa using h2) (by simpa using h3) w
set_option maxRecDepth 100000 in
theorem rtrim_no1 (m t lo hi : Int) (h0 : ckT m t = 191) (w : World) :
    Calls Try.prog 21 #[th m t, th lo hi] w fun e w' => e = .returned (.tuple #[th 0 0, .int .i64 191]) ∧ Below w.heap.size w w' := by
  have H0 := hid1 (rck_any m t)
  rw [h0] at H0
  clear h0
  go_enter Try.func21, Try.ntmps21
  go_wp2_with fail
  refine (H0.out _).mono ?_
  rintro e w1 ⟨rfl, hb1⟩
  have c0 := keepc hb1 (b := w.heap.size) (o := 0) (v := .int .i64 m) (by simp [go_sem])
  have c1 := keepc hb1 (b := w.heap.size) (o := 1) (v := .int .i64 t) (by simp [go_sem])
  have d0 := keepc hb1 (b := w.heap.size + 1) (o := 0) (v := .int .i64 lo) (by simp [go_sem])
  have d1 := keepc hb1 (b := w.heap.size + 1) (o := 1) (v := .int .i64 hi) (by simp [go_sem])
  have y : Wz w1 (w.heap.size + 2) := Wz.keep ⟨by simp [go_sem], by simp [go_sem], by simp [go_sem], by simp [go_sem]⟩ hb1
  have B1 : Below w.heap.size w w1 := by repeat (first | (with_reducible exact Below.refl _ _) | (with_reducible refine bl_alloc ?_ _) | (with_reducible refine Below.drew ?_) | (with_reducible refine bl_drewN ?_ _) | (with_reducible refine bl_set ?_ (by omega) _) | (with_reducible refine bl_step ?_ (by assumption)))
  clear hb1
  obtain ⟨y0, y1, y2, y3⟩ := y
  have z := lt_of_cell y0
  go_wp2
  simp [bodyPost, results, Try.results21, go_sem, *]
  repeat (first | (with_reducible exact Below.refl _ _) | (with_reducible refine bl_alloc ?_ _) | (with_reducible refine Below.drew ?_) | (with_reducible refine bl_drewN ?_ _) | (with_reducible refine bl_set ?_ (by omega) _) | (with_reducible refine bl_step ?_ (by assumption)))
set_option maxRecDepth 100000 in
theorem rtrim_no2 (m t lo hi : Int) (h0 : ckT m t = 0) (h1 : lo < -2147483647) (w : World) :
    Calls Try.prog 21 #[th m t, th lo hi] w fun e w' => e = .returned (.tuple #[th 0 0, .int .i64 1]) ∧ Below w.heap.size w w' := by
  have H0 := hid1 (rck_any m t)
  rw [h0] at H0
  clear h0
  go_enter Try.func21, Try.ntmps21
  go_wp2_with fail
  refine (H0.out _).mono ?_
  rintro e w1 ⟨rfl, hb1⟩
  have c0 := keepc hb1 (b := w.heap.size) (o := 0) (v := .int .i64 m) (by simp [go_sem])
  have c1 := keepc hb1 (b := w.heap.size) (o := 1) (v := .int .i64 t) (by simp [go_sem])
  have d0 := keepc hb1 (b := w.heap.size + 1) (o := 0) (v := .int .i64 lo) (by simp [go_sem])
  have d1 := keepc hb1 (b := w.heap.size + 1) (o := 1) (v := .int .i64 hi) (by simp [go_sem])
  have y : Wz w1 (w.heap.size + 2) := Wz.keep ⟨by simp [go_sem], by simp [go_sem], by simp [go_sem], by simp [go_sem]⟩ hb1
  have B1 : Below w.heap.size w w1 := by repeat (first | (with_reducible exact Below.refl _ _) | (with_reducible refine bl_alloc ?_ _) | (with_reducible refine Below.drew ?_) | (with_reducible refine bl_drewN ?_ _) | (with_reducible refine bl_set ?_ (by omega) _) | (with_reducible refine bl_step ?_ (by assumption)))
  clear hb1
  obtain ⟨y0, y1, y2, y3⟩ := y
  have z := lt_of_cell y0
  go_wp2
  simp [bodyPost, results, Try.results21, go_sem, *]
  repeat (first | (with_reducible exact Below.refl _ _) | (with_reducible refine bl_alloc ?_ _) | (with_reducible refine Below.drew ?_) | (with_reducible refine bl_drewN ?_ _) | (with_reducible refine bl_set ?_ (by omega) _) | (with_reducible refine bl_step ?_ (by assumption)))
set_option maxRecDepth 100000 in
theorem rtrim_no3 (m t lo hi : Int) (h0 : ckT m t = 0) (h1 : decide (lo < -2147483647) = false) (h2 : 2147483647 < hi) (w : World) :
    Calls Try.prog 21 #[th m t, th lo hi] w fun e w' => e = .returned (.tuple #[th 0 0, .int .i64 1]) ∧ Below w.heap.size w w' := by
  have H0 := hid1 (rck_any m t)
  rw [h0] at H0
  clear h0
  go_enter Try.func21, Try.ntmps21
  go_wp2_with fail
  refine (H0.out _).mono ?_
  rintro e w1 ⟨rfl, hb1⟩
  have c0 := keepc hb1 (b := w.heap.size) (o := 0) (v := .int .i64 m) (by simp [go_sem])
  have c1 := keepc hb1 (b := w.heap.size) (o := 1) (v := .int .i64 t) (by simp [go_sem])
  have d0 := keepc hb1 (b := w.heap.size + 1) (o := 0) (v := .int .i64 lo) (by simp [go_sem])
  have d1 := keepc hb1 (b := w.heap.size + 1) (o := 1) (v := .int .i64 hi) (by simp [go_sem])
  have y : Wz w1 (w.heap.size + 2) := Wz.keep ⟨by simp [go_sem], by simp [go_sem], by simp [go_sem], by simp [go_sem]⟩ hb1
  have B1 : Below w.heap.size w w1 := by repeat (first | (with_reducible exact Below.refl _ _) | (with_reducible refine bl_alloc ?_ _) | (with_reducible refine Below.drew ?_) | (with_reducible refine bl_drewN ?_ _) | (with_reducible refine bl_set ?_ (by omega) _) | (with_reducible refine bl_step ?_ (by assumption)))
  clear hb1
  obtain ⟨y0, y1, y2, y3⟩ := y
  have z := lt_of_cell y0
  go_wp2
  simp [bodyPost, results, Try.results21, go_sem, *]
  repeat (first | (with_reducible exact Below.refl _ _) | (with_reducible refine bl_alloc ?_ _) | (with_reducible refine Below.drew ?_) | (with_reducible refine bl_drewN ?_ _) | (with_reducible refine bl_set ?_ (by omega) _) | (with_reducible refine bl_step ?_ (by assumption)))
set_option maxRecDepth 100000 in
theorem rtrim_no4 (m t lo hi : Int) (h0 : ckT m t = 0) (h1 : decide (lo < -2147483647) = false) (h2 : decide (2147483647 < hi) = false) (h3 : hi < lo) (w : World) :
    Calls Try.prog 21 #[th m t, th lo hi] w fun e w' => e = .returned (.tuple #[th 0 0, .int .i64 1]) ∧ Below w.heap.size w w' := by
  have H0 := hid1 (rck_any m t)
  rw [h0] at H0
  clear h0
  go_enter Try.func21, Try.ntmps21
  go_wp2_with fail
  refine (H0.out _).mono ?_
  rintro e w1 ⟨rfl, hb1⟩
  have c0 := keepc hb1 (b := w.heap.size) (o := 0) (v := .int .i64 m) (by simp [go_sem])
  have c1 := keepc hb1 (b := w.heap.size) (o := 1) (v := .int .i64 t) (by simp [go_sem])
  have d0 := keepc hb1 (b := w.heap.size + 1) (o := 0) (v := .int .i64 lo) (by simp [go_sem])
  have d1 := keepc hb1 (b := w.heap.size + 1) (o := 1) (v := .int .i64 hi) (by simp [go_sem])
  have y : Wz w1 (w.heap.size + 2) := Wz.keep ⟨by simp [go_sem], by simp [go_sem], by simp [go_sem], by simp [go_sem]⟩ hb1
  have B1 : Below w.heap.size w w1 := by repeat (first | (with_reducible exact Below.refl _ _) | (with_reducible refine bl_alloc ?_ _) | (with_reducible refine Below.drew ?_) | (with_reducible refine bl_drewN ?_ _) | (with_reducible refine bl_set ?_ (by omega) _) | (with_reducible refine bl_step ?_ (by assumption)))
  clear hb1
  obtain ⟨y0, y1, y2, y3⟩ := y
  have z := lt_of_cell y0
  go_wp2
  simp [bodyPost, results, Try.results21, go_sem, *]
  repeat (first | (with_reducible exact Below.refl _ _) | (with_reducible refine bl_alloc ?_ _) | (with_reducible refine Below.drew ?_) | (with_reducible refine bl_drewN ?_ _) | (with_reducible refine bl_set ?_ (by omega) _) | (with_reducible refine bl_step ?_ (by assumption)))
set_option maxRecDepth 100000 in
theorem rtrim_ok (m t lo hi : Int) (M T : Int) (p q : Bool) (HP : Hid (∀ w : World, Calls Try.prog 19 #[th m t, .int .i64 lo] w fun e w' => e = .returned (.bool p) ∧ Below w.heap.size w w')) (HQ : Hid (∀ w : World, Calls Try.prog 19 #[th m t, .int .i64 hi] w fun e w' => e = .returned (.bool q) ∧ Below w.heap.size w w')) (hM : Hid (seM p q m = M ∧ seT p q t = T)) (h0 : ckT m t = 0) (h1 : decide (lo < -2147483647) = false) (h2 : decide (2147483647 < hi) = false) (h3 : decide (hi < lo) = false) (w : World) :
    Calls Try.prog 21 #[th m t, th lo hi] w fun e w' => e = .returned (.tuple #[th M T, .int .i64 0]) ∧ Below w.heap.size w w' := by
  have H0 := hid1 (rck_any m t)
  rw [h0] at H0
  clear h0
  go_enter Try.func21, Try.ntmps21
  go_wp2_with fail
  refine (H0.out _).mono ?_
  rintro e w1 ⟨rfl, hb1⟩
  have c0 := keepc hb1 (b := w.heap.size) (o := 0) (v := .int .i64 m) (by simp [go_sem])
  have c1 := keepc hb1 (b := w.heap.size) (o := 1) (v := .int .i64 t) (by simp [go_sem])
  have d0 := keepc hb1 (b := w.heap.size + 1) (o := 0) (v := .int .i64 lo) (by simp [go_sem])
  have d1 := keepc hb1 (b := w.heap.size + 1) (o := 1) (v := .int .i64 hi) (by simp [go_sem])
  have y : Wz w1 (w.heap.size + 2) := Wz.keep ⟨by simp [go_sem], by simp [go_sem], by simp [go_sem], by simp [go_sem]⟩ hb1
  have B1 : Below w.heap.size w w1 := by repeat (first | (with_reducible exact Below.refl _ _) | (with_reducible refine bl_alloc ?_ _) | (with_reducible refine Below.drew ?_) | (with_reducible refine bl_drewN ?_ _) | (with_reducible refine bl_set ?_ (by omega) _) | (with_reducible refine bl_step ?_ (by assumption)))
  clear hb1
  have HZ := hid1 y
  have HB := hid1 B1
  clear y B1
  go_upto_region 6 with fail
  go_cut [7, 8] (fun s7 s8 wx => s7 = .bool p ∧ s8 = .bool q ∧ Hid (Below w1.heap.size w1 wx))
  case first =>
    go_region_held3 (fun W => W.cell? ⟨w.heap.size, 0, none⟩ = some (.int .i64 m) ∧ W.cell? ⟨w.heap.size, 1, none⟩ = some (.int .i64 t) ∧ W.cell? ⟨w.heap.size + 1, 0, none⟩ = some (.int .i64 lo) ∧ W.cell? ⟨w.heap.size + 1, 1, none⟩ = some (.int .i64 hi)) (((try dsimp only); exact ⟨keepc (W := w1) (by repeat (first | (with_reducible exact Below.refl _ _) | (with_reducible refine bl_alloc ?_ _) | (with_reducible refine Below.drew ?_) | (with_reducible refine bl_drewN ?_ _) | (with_reducible refine bl_set ?_ (by omega) _) | (with_reducible refine bl_step ?_ (by assumption)))) c0, keepc (W := w1) (by repeat (first | (with_reducible exact Below.refl _ _) | (with_reducible refine bl_alloc ?_ _) | (with_reducible refine Below.drew ?_) | (with_reducible refine bl_drewN ?_ _) | (with_reducible refine bl_set ?_ (by omega) _) | (with_reducible refine bl_step ?_ (by assumption)))) c1, keepc (W := w1) (by repeat (first | (with_reducible exact Below.refl _ _) | (with_reducible refine bl_alloc ?_ _) | (with_reducible refine Below.drew ?_) | (with_reducible refine bl_drewN ?_ _) | (with_reducible refine bl_set ?_ (by omega) _) | (with_reducible refine bl_step ?_ (by assumption)))) d0, keepc (W := w1) (by repeat (first | (with_reducible exact Below.refl _ _) | (with_reducible refine bl_alloc ?_ _) | (with_reducible refine Below.drew ?_) | (with_reducible refine bl_drewN ?_ _) | (with_reducible refine bl_set ?_ (by omega) _) | (with_reducible refine bl_step ?_ (by assumption)))) d1⟩))
      (first
        | (go_at_call 19; (with_reducible refine (HP.out _).mono ?_); rintro e w2 ⟨rfl, hb2⟩)
        | (go_at_call 19; (with_reducible refine (HQ.out _).mono ?_); rintro e w3 ⟨rfl, hb3⟩))
    all_goals go_wp2_with fail
    all_goals go_meet
    all_goals exact ⟨rfl, rfl, hid1 (by repeat (first | (with_reducible exact Below.refl _ _) | (with_reducible refine bl_alloc ?_ _) | (with_reducible refine Below.drew ?_) | (with_reducible refine bl_drewN ?_ _) | (with_reducible refine bl_set ?_ (by omega) _) | (with_reducible refine bl_step ?_ (by assumption))))⟩
  case rest =>
    obtain ⟨rfl, rfl, HC⟩ := hcut
    have BC := bl_step HB.out HC.out
    replace c0 := keepc HC.out c0
    replace c1 := keepc HC.out c1
    obtain ⟨y0, y1, y2, y3⟩ := HZ.out.keep HC.out
    have z := lt_of_cell y0
    clear HC HB HZ d0 d1 HP HQ
    cases p <;> cases q
    · obtain ⟨e1, e2⟩ := hM.out
      have e3 : M = 4 := e1.symm
      have e4 : T = 0 := e2.symm
      subst e3 e4
      clear hM e1 e2
      go_wp2
      simp [bodyPost, results, Try.results21, go_sem, *]
      repeat (first | (with_reducible exact Below.refl _ _) | (with_reducible refine bl_alloc ?_ _) | (with_reducible refine Below.drew ?_) | (with_reducible refine bl_drewN ?_ _) | (with_reducible refine bl_set ?_ (by omega) _) | (with_reducible refine bl_step ?_ (by assumption)))
    · obtain ⟨e1, e2⟩ := hM.out
      have e3 : M = m := e1.symm
      have e4 : T = t := e2.symm
      subst e3 e4
      clear hM e1 e2
      go_wp2
      simp [bodyPost, results, Try.results21, go_sem, *]
      repeat (first | (with_reducible exact Below.refl _ _) | (with_reducible refine bl_alloc ?_ _) | (with_reducible refine Below.drew ?_) | (with_reducible refine bl_drewN ?_ _) | (with_reducible refine bl_set ?_ (by omega) _) | (with_reducible refine bl_step ?_ (by assumption)))
    · obtain ⟨e1, e2⟩ := hM.out
      have e3 : M = m := e1.symm
      have e4 : T = t := e2.symm
      subst e3 e4
      clear hM e1 e2
      go_wp2
      simp [bodyPost, results, Try.results21, go_sem, *]
      repeat (first | (with_reducible exact Below.refl _ _) | (with_reducible refine bl_alloc ?_ _) | (with_reducible refine Below.drew ?_) | (with_reducible refine bl_drewN ?_ _) | (with_reducible refine bl_set ?_ (by omega) _) | (with_reducible refine bl_step ?_ (by assumption)))
    · obtain ⟨e1, e2⟩ := hM.out
      have e3 : M = 3 := e1.symm
      have e4 : T = 0 := e2.symm
      subst e3 e4
      clear hM e1 e2
      go_wp2
      simp [bodyPost, results, Try.results21, go_sem, *]
      repeat (first | (with_reducible exact Below.refl _ _) | (with_reducible refine bl_alloc ?_ _) | (with_reducible refine Below.drew ?_) | (with_reducible refine bl_drewN ?_ _) | (with_reducible refine bl_set ?_ (by omega) _) | (with_reducible refine bl_step ?_ (by assumption)))
theorem rtrim_any (m t lo hi : Int) (w : World) :
    Calls Try.prog 21 #[th m t, th lo hi] w fun e w' => e = .returned (.tuple #[th (trM m t lo hi) (trT m t lo hi), .int .i64 (trE m t lo hi)]) ∧ Below w.heap.size w w' := by
  by_cases h : okT m t
  · by_cases h1 : lo < -2147483647
    · have e : trE m t lo hi = 1 := by unfold trE; rw [if_pos h, if_neg (by omega)]
      have e1 : trM m t lo hi = 0 := by unfold trM; rw [e]; rfl
      have e2 : trT m t lo hi = 0 := by unfold trT; rw [e]; rfl
      rw [e, e1, e2]; exact rtrim_no2 m t lo hi (ckT_ok h) h1 w
    by_cases h2 : 2147483647 < hi
    · have e : trE m t lo hi = 1 := by unfold trE; rw [if_pos h, if_neg (by omega)]
      have e1 : trM m t lo hi = 0 := by unfold trM; rw [e]; rfl
      have e2 : trT m t lo hi = 0 := by unfold trT; rw [e]; rfl
      rw [e, e1, e2]; exact rtrim_no3 m t lo hi (ckT_ok h) (decide_eq_false h1) h2 w
    by_cases h3 : hi < lo
    · have e : trE m t lo hi = 1 := by unfold trE; rw [if_pos h, if_neg (by omega)]
      have e1 : trM m t lo hi = 0 := by unfold trM; rw [e]; rfl
      have e2 : trT m t lo hi = 0 := by unfold trT; rw [e]; rfl
      rw [e, e1, e2]; exact rtrim_no4 m t lo hi (ckT_ok h) (decide_eq_false h1) (decide_eq_false h2) h3 w
    have e : trE m t lo hi = 0 := by unfold trE; rw [if_pos h, if_pos (by omega)]
    have e1 : trM m t lo hi = stM m t lo hi := by unfold trM; rw [e]; rfl
    have e2 : trT m t lo hi = stT m t lo hi := by unfold trT; rw [e]; rfl
    rw [e, e1, e2]; exact rtrim_ok m t lo hi _ _ _ _ (hid1 (rpl_any m t lo)) (hid1 (rpl_any m t hi)) (hid1 (And.intro rfl rfl)) (ckT_ok h) (decide_eq_false h1) (decide_eq_false h2) (decide_eq_false h3) w
  · have e : trE m t lo hi = 191 := by unfold trE; rw [if_neg h]
    have e1 : trM m t lo hi = 0 := by unfold trM; rw [e]; rfl
    have e2 : trT m t lo hi = 0 := by unfold trT; rw [e]; rfl
    rw [e, e1, e2]; exact rtrim_no1 m t lo hi (ckT_no h) w
set_option maxRecDepth 100000 in
theorem rnorm_no (m t : Int) (h0 : ckT m t = 191) (w : World) :
    Calls Try.prog 22 #[th m t] w fun e w' => e = .returned (.tuple #[nm 0 0 0 0 0 0 0 0, .int .i64 191]) ∧ Below w.heap.size w w' := by
  have H0 := hid1 (rck_any m t)
  rw [h0] at H0
  clear h0
  go_enter Try.func22, Try.ntmps22
  go_wp2_with fail
  refine (H0.out _).mono ?_
  rintro e w1 ⟨rfl, hb1⟩
  have B1 : Below w.heap.size w w1 := by repeat (first | (with_reducible exact Below.refl _ _) | (with_reducible refine bl_alloc ?_ _) | (with_reducible refine Below.drew ?_) | (with_reducible refine bl_drewN ?_ _) | (with_reducible refine bl_set ?_ (by omega) _) | (with_reducible refine bl_step ?_ (by assumption)))
  have c0 := keepc hb1 (b := w.heap.size) (o := 0) (v := .int .i64 m) (by simp [go_sem])
  have c1 := keepc hb1 (b := w.heap.size) (o := 1) (v := .int .i64 t) (by simp [go_sem])
  have y : W8 w1 (w.heap.size + 1) := W8.keep ⟨fun j hj => by first | (match j, hj with | 0, _ => simp [go_sem] | 1, _ => simp [go_sem] | 2, _ => simp [go_sem] | 3, _ => simp [go_sem] | 4, _ => simp [go_sem] | 5, _ => simp [go_sem] | 6, _ => simp [go_sem] | 7, _ => simp [go_sem]), fun j => by simp [go_sem]⟩ hb1
  clear hb1
  have y0 := y.1 0 (by decide); have y1 := y.1 1 (by decide); have y2 := y.1 2 (by decide); have y3 := y.1 3 (by decide); have y4 := y.1 4 (by decide); have y5 := y.1 5 (by decide); have y6 := y.1 6 (by decide); have y7 := y.1 7 (by decide)
  have f0 := y.2 0; have f1 := y.2 1; have f2 := y.2 2; have f3 := y.2 3; have f4 := y.2 4; have f5 := y.2 5; have f6 := y.2 6; have f7 := y.2 7
  have z := lt_of_cell y0
  have z0 := lt_of_cell c0
  have z51 : w.heap.size < w1.heap.size + 1 := by omega
  have z52 : w.heap.size < w1.heap.size + 1 + 1 := by omega
  have z53 : w.heap.size < w1.heap.size + 1 + 1 + 1 := by omega
  have z54 : w.heap.size < w1.heap.size + 1 + 1 + 1 + 1 := by omega
  have z61 : w.heap.size + 1 < w1.heap.size + 1 := by omega
  have z62 : w.heap.size + 1 < w1.heap.size + 1 + 1 := by omega
  have z63 : w.heap.size + 1 < w1.heap.size + 1 + 1 + 1 := by omega
  have z64 : w.heap.size + 1 < w1.heap.size + 1 + 1 + 1 + 1 := by omega
  clear y
  go_wp2
  simp [bodyPost, results, Try.results22, go_sem, *]
  repeat (first | (with_reducible exact Below.refl _ _) | (with_reducible refine bl_alloc ?_ _) | (with_reducible refine Below.drew ?_) | (with_reducible refine bl_drewN ?_ _) | (with_reducible refine bl_set ?_ (by omega) _) | (with_reducible refine bl_step ?_ (by assumption)))
set_option maxRecDepth 100000 in
theorem rnorm_1 (t : Int) (h0 : ckT 1 t = 0) (w : World) :
    Calls Try.prog 22 #[th 1 t] w fun e w' => e = .returned (.tuple #[nm 1 1 0 1 t 1 1 1, .int .i64 0]) ∧ Below w.heap.size w w' := by
  have H0 := hid1 (rck_any 1 t)
  rw [h0] at H0
  clear h0
  go_enter Try.func22, Try.ntmps22
  go_wp2_with fail
  refine (H0.out _).mono ?_
  rintro e w1 ⟨rfl, hb1⟩
  have B1 : Below w.heap.size w w1 := by repeat (first | (with_reducible exact Below.refl _ _) | (with_reducible refine bl_alloc ?_ _) | (with_reducible refine Below.drew ?_) | (with_reducible refine bl_drewN ?_ _) | (with_reducible refine bl_set ?_ (by omega) _) | (with_reducible refine bl_step ?_ (by assumption)))
  have c0 := keepc hb1 (b := w.heap.size) (o := 0) (v := .int .i64 1) (by simp [go_sem])
  have c1 := keepc hb1 (b := w.heap.size) (o := 1) (v := .int .i64 t) (by simp [go_sem])
  have y : W8 w1 (w.heap.size + 1) := W8.keep ⟨fun j hj => by first | (match j, hj with | 0, _ => simp [go_sem] | 1, _ => simp [go_sem] | 2, _ => simp [go_sem] | 3, _ => simp [go_sem] | 4, _ => simp [go_sem] | 5, _ => simp [go_sem] | 6, _ => simp [go_sem] | 7, _ => simp [go_sem]), fun j => by simp [go_sem]⟩ hb1
  clear hb1
  have y0 := y.1 0 (by decide); have y1 := y.1 1 (by decide); have y2 := y.1 2 (by decide); have y3 := y.1 3 (by decide); have y4 := y.1 4 (by decide); have y5 := y.1 5 (by decide); have y6 := y.1 6 (by decide); have y7 := y.1 7 (by decide)
  have f0 := y.2 0; have f1 := y.2 1; have f2 := y.2 2; have f3 := y.2 3; have f4 := y.2 4; have f5 := y.2 5; have f6 := y.2 6; have f7 := y.2 7
  have z := lt_of_cell y0
  have z0 := lt_of_cell c0
  have z51 : w.heap.size < w1.heap.size + 1 := by omega
  have z52 : w.heap.size < w1.heap.size + 1 + 1 := by omega
  have z53 : w.heap.size < w1.heap.size + 1 + 1 + 1 := by omega
  have z54 : w.heap.size < w1.heap.size + 1 + 1 + 1 + 1 := by omega
  have z61 : w.heap.size + 1 < w1.heap.size + 1 := by omega
  have z62 : w.heap.size + 1 < w1.heap.size + 1 + 1 := by omega
  have z63 : w.heap.size + 1 < w1.heap.size + 1 + 1 + 1 := by omega
  have z64 : w.heap.size + 1 < w1.heap.size + 1 + 1 + 1 + 1 := by omega
  clear y
  go_wp2
  simp [bodyPost, results, Try.results22, go_sem, *]
  repeat (first | (with_reducible exact Below.refl _ _) | (with_reducible refine bl_alloc ?_ _) | (with_reducible refine Below.drew ?_) | (with_reducible refine bl_drewN ?_ _) | (with_reducible refine bl_set ?_ (by omega) _) | (with_reducible refine bl_step ?_ (by assumption)))
set_option maxRecDepth 100000 in
theorem rnorm_2 (t : Int) (h0 : ckT 2 t = 0) (w : World) :
    Calls Try.prog 22 #[th 2 t] w fun e w' => e = .returned (.tuple #[nm (-1) 1 0 1 t 1 1 1, .int .i64 0]) ∧ Below w.heap.size w w' := by
  have H0 := hid1 (rck_any 2 t)
  rw [h0] at H0
  clear h0
  go_enter Try.func22, Try.ntmps22
  go_wp2_with fail
  refine (H0.out _).mono ?_
  rintro e w1 ⟨rfl, hb1⟩
  have B1 : Below w.heap.size w w1 := by repeat (first | (with_reducible exact Below.refl _ _) | (with_reducible refine bl_alloc ?_ _) | (with_reducible refine Below.drew ?_) | (with_reducible refine bl_drewN ?_ _) | (with_reducible refine bl_set ?_ (by omega) _) | (with_reducible refine bl_step ?_ (by assumption)))
  have c0 := keepc hb1 (b := w.heap.size) (o := 0) (v := .int .i64 2) (by simp [go_sem])
  have c1 := keepc hb1 (b := w.heap.size) (o := 1) (v := .int .i64 t) (by simp [go_sem])
  have y : W8 w1 (w.heap.size + 1) := W8.keep ⟨fun j hj => by first | (match j, hj with | 0, _ => simp [go_sem] | 1, _ => simp [go_sem] | 2, _ => simp [go_sem] | 3, _ => simp [go_sem] | 4, _ => simp [go_sem] | 5, _ => simp [go_sem] | 6, _ => simp [go_sem] | 7, _ => simp [go_sem]), fun j => by simp [go_sem]⟩ hb1
  clear hb1
  have y0 := y.1 0 (by decide); have y1 := y.1 1 (by decide); have y2 := y.1 2 (by decide); have y3 := y.1 3 (by decide); have y4 := y.1 4 (by decide); have y5 := y.1 5 (by decide); have y6 := y.1 6 (by decide); have y7 := y.1 7 (by decide)
  have f0 := y.2 0; have f1 := y.2 1; have f2 := y.2 2; have f3 := y.2 3; have f4 := y.2 4; have f5 := y.2 5; have f6 := y.2 6; have f7 := y.2 7
  have z := lt_of_cell y0
  have z0 := lt_of_cell c0
  have z51 : w.heap.size < w1.heap.size + 1 := by omega
  have z52 : w.heap.size < w1.heap.size + 1 + 1 := by omega
  have z53 : w.heap.size < w1.heap.size + 1 + 1 + 1 := by omega
  have z54 : w.heap.size < w1.heap.size + 1 + 1 + 1 + 1 := by omega
  have z61 : w.heap.size + 1 < w1.heap.size + 1 := by omega
  have z62 : w.heap.size + 1 < w1.heap.size + 1 + 1 := by omega
  have z63 : w.heap.size + 1 < w1.heap.size + 1 + 1 + 1 := by omega
  have z64 : w.heap.size + 1 < w1.heap.size + 1 + 1 + 1 + 1 := by omega
  clear y
  go_wp2
  simp [bodyPost, results, Try.results22, go_sem, *]
  repeat (first | (with_reducible exact Below.refl _ _) | (with_reducible refine bl_alloc ?_ _) | (with_reducible refine Below.drew ?_) | (with_reducible refine bl_drewN ?_ _) | (with_reducible refine bl_set ?_ (by omega) _) | (with_reducible refine bl_step ?_ (by assumption)))
set_option maxRecDepth 100000 in
theorem rnorm_3 (t : Int) (h0 : ckT 3 t = 0) (w : World) :
    Calls Try.prog 22 #[th 3 t] w fun e w' => e = .returned (.tuple #[nm 0 1 0 1 t 1 1 1, .int .i64 0]) ∧ Below w.heap.size w w' := by
  have H0 := hid1 (rck_any 3 t)
  rw [h0] at H0
  clear h0
  go_enter Try.func22, Try.ntmps22
  go_wp2_with fail
  refine (H0.out _).mono ?_
  rintro e w1 ⟨rfl, hb1⟩
  have B1 : Below w.heap.size w w1 := by repeat (first | (with_reducible exact Below.refl _ _) | (with_reducible refine bl_alloc ?_ _) | (with_reducible refine Below.drew ?_) | (with_reducible refine bl_drewN ?_ _) | (with_reducible refine bl_set ?_ (by omega) _) | (with_reducible refine bl_step ?_ (by assumption)))
  have c0 := keepc hb1 (b := w.heap.size) (o := 0) (v := .int .i64 3) (by simp [go_sem])
  have c1 := keepc hb1 (b := w.heap.size) (o := 1) (v := .int .i64 t) (by simp [go_sem])
  have y : W8 w1 (w.heap.size + 1) := W8.keep ⟨fun j hj => by first | (match j, hj with | 0, _ => simp [go_sem] | 1, _ => simp [go_sem] | 2, _ => simp [go_sem] | 3, _ => simp [go_sem] | 4, _ => simp [go_sem] | 5, _ => simp [go_sem] | 6, _ => simp [go_sem] | 7, _ => simp [go_sem]), fun j => by simp [go_sem]⟩ hb1
  clear hb1
  have y0 := y.1 0 (by decide); have y1 := y.1 1 (by decide); have y2 := y.1 2 (by decide); have y3 := y.1 3 (by decide); have y4 := y.1 4 (by decide); have y5 := y.1 5 (by decide); have y6 := y.1 6 (by decide); have y7 := y.1 7 (by decide)
  have f0 := y.2 0; have f1 := y.2 1; have f2 := y.2 2; have f3 := y.2 3; have f4 := y.2 4; have f5 := y.2 5; have f6 := y.2 6; have f7 := y.2 7
  have z := lt_of_cell y0
  have z0 := lt_of_cell c0
  have z51 : w.heap.size < w1.heap.size + 1 := by omega
  have z52 : w.heap.size < w1.heap.size + 1 + 1 := by omega
  have z53 : w.heap.size < w1.heap.size + 1 + 1 + 1 := by omega
  have z54 : w.heap.size < w1.heap.size + 1 + 1 + 1 + 1 := by omega
  have z61 : w.heap.size + 1 < w1.heap.size + 1 := by omega
  have z62 : w.heap.size + 1 < w1.heap.size + 1 + 1 := by omega
  have z63 : w.heap.size + 1 < w1.heap.size + 1 + 1 + 1 := by omega
  have z64 : w.heap.size + 1 < w1.heap.size + 1 + 1 + 1 + 1 := by omega
  clear y
  go_wp2
  simp [bodyPost, results, Try.results22, go_sem, *]
  repeat (first | (with_reducible exact Below.refl _ _) | (with_reducible refine bl_alloc ?_ _) | (with_reducible refine Below.drew ?_) | (with_reducible refine bl_drewN ?_ _) | (with_reducible refine bl_set ?_ (by omega) _) | (with_reducible refine bl_step ?_ (by assumption)))
set_option maxRecDepth 100000 in
theorem rnorm_4 (t : Int) (h0 : ckT 4 t = 0) (w : World) :
    Calls Try.prog 22 #[th 4 t] w fun e w' => e = .returned (.tuple #[nm 0 1 (-1) 1 t 1 1 1, .int .i64 0]) ∧ Below w.heap.size w w' := by
  have H0 := hid1 (rck_any 4 t)
  rw [h0] at H0
  clear h0
  go_enter Try.func22, Try.ntmps22
  go_wp2_with fail
  refine (H0.out _).mono ?_
  rintro e w1 ⟨rfl, hb1⟩
  have B1 : Below w.heap.size w w1 := by repeat (first | (with_reducible exact Below.refl _ _) | (with_reducible refine bl_alloc ?_ _) | (with_reducible refine Below.drew ?_) | (with_reducible refine bl_drewN ?_ _) | (with_reducible refine bl_set ?_ (by omega) _) | (with_reducible refine bl_step ?_ (by assumption)))
  have c0 := keepc hb1 (b := w.heap.size) (o := 0) (v := .int .i64 4) (by simp [go_sem])
  have c1 := keepc hb1 (b := w.heap.size) (o := 1) (v := .int .i64 t) (by simp [go_sem])
  have y : W8 w1 (w.heap.size + 1) := W8.keep ⟨fun j hj => by first | (match j, hj with | 0, _ => simp [go_sem] | 1, _ => simp [go_sem] | 2, _ => simp [go_sem] | 3, _ => simp [go_sem] | 4, _ => simp [go_sem] | 5, _ => simp [go_sem] | 6, _ => simp [go_sem] | 7, _ => simp [go_sem]), fun j => by simp [go_sem]⟩ hb1
  clear hb1
  have y0 := y.1 0 (by decide); have y1 := y.1 1 (by decide); have y2 := y.1 2 (by decide); have y3 := y.1 3 (by decide); have y4 := y.1 4 (by decide); have y5 := y.1 5 (by decide); have y6 := y.1 6 (by decide); have y7 := y.1 7 (by decide)
  have f0 := y.2 0; have f1 := y.2 1; have f2 := y.2 2; have f3 := y.2 3; have f4 := y.2 4; have f5 := y.2 5; have f6 := y.2 6; have f7 := y.2 7
  have z := lt_of_cell y0
  have z0 := lt_of_cell c0
  have z51 : w.heap.size < w1.heap.size + 1 := by omega
  have z52 : w.heap.size < w1.heap.size + 1 + 1 := by omega
  have z53 : w.heap.size < w1.heap.size + 1 + 1 + 1 := by omega
  have z54 : w.heap.size < w1.heap.size + 1 + 1 + 1 + 1 := by omega
  have z61 : w.heap.size + 1 < w1.heap.size + 1 := by omega
  have z62 : w.heap.size + 1 < w1.heap.size + 1 + 1 := by omega
  have z63 : w.heap.size + 1 < w1.heap.size + 1 + 1 + 1 := by omega
  have z64 : w.heap.size + 1 < w1.heap.size + 1 + 1 + 1 + 1 := by omega
  clear y
  go_wp2
  simp [bodyPost, results, Try.results22, go_sem, *]
  repeat (first | (with_reducible exact Below.refl _ _) | (with_reducible refine bl_alloc ?_ _) | (with_reducible refine Below.drew ?_) | (with_reducible refine bl_drewN ?_ _) | (with_reducible refine bl_set ?_ (by omega) _) | (with_reducible refine bl_step ?_ (by assumption)))
theorem rnorm_any (m t : Int) (w : World) :
    Calls Try.prog 22 #[th m t] w fun e w' => e = .returned (.tuple #[nm (nT m t (gT m)) (nT m t 1) (nT m t (bT m)) (nT m t 1) (nT m t t) (nT m t 1) (nT m t 1) (nT m t 1), .int .i64 (ckT m t)]) ∧ Below w.heap.size w w' := by
  unfold nT
  by_cases h : okT m t
  · rw [if_pos h, if_pos h, if_pos h, if_pos h, ckT_ok h]
    have k := h
    unfold okT at k
    by_cases h1 : m = 1
    · subst h1; exact rnorm_1 t (ckT_ok h) w
    by_cases h2 : m = 2
    · subst h2; exact rnorm_2 t (ckT_ok h) w
    by_cases h3 : m = 3
    · subst h3; exact rnorm_3 t (ckT_ok h) w
    obtain rfl : m = 4 := by omega
    exact rnorm_4 t (ckT_ok h) w
  · rw [if_neg h, if_neg h, if_neg h, if_neg h, ckT_no h]
    exact rnorm_no m t (ckT_no h) w
end Go.Proofs.Ytffhbfdbahdhoab
