/- PACKAGE fold: Trim, whole, Norm. -/
import Derived.Test.YtffhbfdbahdhoabHW3
namespace Go.Proofs.Ytffhbfdbahdhoab
open Go.RowKit Go.Shelf Wd
attribute [local go_sem ↓] Go.wp_at_zero Go.wp_at_succ

set_option maxRecDepth 100000 in
theorem trim_no1 (m t lo hi : Int) (h0 : ckT m t = 191) (w : World) :
    Calls Try.prog 12 #[th m t, th lo hi] w fun e w' => e = .returned (.tuple #[th 0 0, .int .i64 191]) ∧ Below w.heap.size w w' := by
  have H0 := hid1 (fck_any m t)
  rw [h0] at H0
  clear h0
  go_enter Try.func12, Try.ntmps12
  go_wp2_with fail
  refine (H0.out _).mono ?_
  rintro e w1 ⟨rfl, hb1⟩
  have c0 := keepc hb1 (b := w.heap.size) (o := 0) (v := .int .i64 m) (by simp [go_sem])
  have c1 := keepc hb1 (b := w.heap.size) (o := 1) (v := .int .i64 t) (by simp [go_sem])
  have d0 := keepc hb1 (b := w.heap.size + 1) (o := 0) (v := .int .i64 lo) (by simp [go_sem])
  have d1 := keepc hb1 (b := w.heap.size + 1) (o := 1) (v := .int .i64 hi) (by simp [go_sem])
  have y : Wz w1 (w.heap.size + 2) := Wz.keep ⟨by simp [go_sem], by simp [go_sem], by simp [go_sem], by simp [go_sem]⟩ hb1
  have B1 : Below w.heap.size w w1 := by repeat (first | (with_reducible exact Below.refl _ _) | (with_reducible refine bl_alloc ?_ _) | (with_reducible refine Below.drew ?_) | (with_reducible refine bl_drewN ?_ _) | (with_reducible refine bl_set ?_ (by omega) _) | (with_reducible refine bl_step ?_ (by assumption)))
  clear hb1
  obtain ⟨y0, y1, y2, y3⟩ := y
  have z := lt_of_cell y0
  go_wp2
  simp [bodyPost, results, Try.results12, go_sem, *]
  repeat (first | (with_reducible exact Below.refl _ _) | (with_reducible refine bl_alloc ?_ _) | (with_reducible refine Below.drew ?_) | (with_reducible refine bl_drewN ?_ _) | (with_reducible refine bl_set ?_ (by omega) _) | (with_reducible refine bl_step ?_ (by assumption)))
set_option maxRecDepth 100000 in
theorem trim_no2 (m t lo hi : Int) (h0 : ckT m t = 0) (h1 : lo < -2147483647) (w : World) :
    Calls Try.prog 12 #[th m t, th lo hi] w fun e w' => e = .returned (.tuple #[th 0 0, .int .i64 1]) ∧ Below w.heap.size w w' := by
  have H0 := hid1 (fck_any m t)
  rw [h0] at H0
  clear h0
  go_enter Try.func12, Try.ntmps12
  go_wp2_with fail
  refine (H0.out _).mono ?_
  rintro e w1 ⟨rfl, hb1⟩
  have c0 := keepc hb1 (b := w.heap.size) (o := 0) (v := .int .i64 m) (by simp [go_sem])
  have c1 := keepc hb1 (b := w.heap.size) (o := 1) (v := .int .i64 t) (by simp [go_sem])
  have d0 := keepc hb1 (b := w.heap.size + 1) (o := 0) (v := .int .i64 lo) (by simp [go_sem])
  have d1 := keepc hb1 (b := w.heap.size + 1) (o := 1) (v := .int .i64 hi) (by simp [go_sem])
  have y : Wz w1 (w.heap.size + 2) := Wz.keep ⟨by simp [go_sem], by simp [go_sem], by simp [go_sem], by simp [go_sem]⟩ hb1
  have B1 : Below w.heap.size w w1 := by repeat (first | (with_reducible exact Below.refl _ _) | (with_reducible refine bl_alloc ?_ _) | (with_reducible refine Below.drew ?_) | (with_reducible refine bl_drewN ?_ _) | (with_reducible refine bl_set ?_ (by omega) _) | (with_reducible refine bl_step ?_ (by assumption)))
  clear hb1
  obtain ⟨y0, y1, y2, y3⟩ := y
  have z := lt_of_cell y0
  go_wp2
  simp [bodyPost, results, Try.results12, go_sem, *]
  repeat (first | (with_reducible exact Below.refl _ _) | (with_reducible refine bl_alloc ?_ _) | (with_reducible refine Below.drew ?_) | (with_reducible refine bl_drewN ?_ _) | (with_reducible refine bl_set ?_ (by omega) _) | (with_reducible refine bl_step ?_ (by assumption)))
set_option maxRecDepth 100000 in
theorem trim_no3 (m t lo hi : Int) (h0 : ckT m t = 0) (h1 : decide (lo < -2147483647) = false) (h2 : 2147483647 < hi) (w : World) :
    Calls Try.prog 12 #[th m t, th lo hi] w fun e w' => e = .returned (.tuple #[th 0 0, .int .i64 1]) ∧ Below w.heap.size w w' := by
  have H0 := hid1 (fck_any m t)
  rw [h0] at H0
  clear h0
  go_enter Try.func12, Try.ntmps12
  go_wp2_with fail
  refine (H0.out _).mono ?_
  rintro e w1 ⟨rfl, hb1⟩
  have c0 := keepc hb1 (b := w.heap.size) (o := 0) (v := .int .i64 m) (by simp [go_sem])
  have c1 := keepc hb1 (b := w.heap.size) (o := 1) (v := .int .i64 t) (by simp [go_sem])
  have d0 := keepc hb1 (b := w.heap.size + 1) (o := 0) (v := .int .i64 lo) (by simp [go_sem])
  have d1 := keepc hb1 (b := w.heap.size + 1) (o := 1) (v := .int .i64 hi) (by simp [go_sem])
  have y : Wz w1 (w.heap.size + 2) := Wz.keep ⟨by simp [go_sem], by simp [go_sem], by simp [go_sem], by simp [go_sem]⟩ hb1
  have B1 : Below w.heap.size w w1 := by repeat (first | (with_reducible exact Below.refl _ _) | (with_reducible refine bl_alloc ?_ _) | (with_reducible refine Below.drew ?_) | (with_reducible refine bl_drewN ?_ _) | (with_reducible refine bl_set ?_ (by omega) _) | (with_reducible refine bl_step ?_ (by assumption)))
  clear hb1
  obtain ⟨y0, y1, y2, y3⟩ := y
  have z := lt_of_cell y0
  go_wp2
  simp [bodyPost, results, Try.results12, go_sem, *]
  repeat (first | (with_reducible exact Below.refl _ _) | (with_reducible refine bl_alloc ?_ _) | (with_reducible refine Below.drew ?_) | (with_reducible refine bl_drewN ?_ _) | (with_reducible refine bl_set ?_ (by omega) _) | (with_reducible refine bl_step ?_ (by assumption)))
set_option maxRecDepth 100000 in
theorem trim_no4 (m t lo hi : Int) (h0 : ckT m t = 0) (h1 : decide (lo < -2147483647) = false) (h2 : decide (2147483647 < hi) = false) (h3 : hi < lo) (w : World) :
    Calls Try.prog 12 #[th m t, th lo hi] w fun e w' => e = .returned (.tuple #[th 0 0, .int .i64 1]) ∧ Below w.heap.size w w' := by
  have H0 := hid1 (fck_any m t)
  rw [h0] at H0
  clear h0
  go_enter Try.func12, Try.ntmps12
  go_wp2_with fail
  refine (H0.out _).mono ?_
  rintro e w1 ⟨rfl, hb1⟩
  have c0 := keepc hb1 (b := w.heap.size) (o := 0) (v := .int .i64 m) (by simp [go_sem])
  have c1 := keepc hb1 (b := w.heap.size) (o := 1) (v := .int .i64 t) (by simp [go_sem])
  have d0 := keepc hb1 (b := w.heap.size + 1) (o := 0) (v := .int .i64 lo) (by simp [go_sem])
  have d1 := keepc hb1 (b := w.heap.size + 1) (o := 1) (v := .int .i64 hi) (by simp [go_sem])
  have y : Wz w1 (w.heap.size + 2) := Wz.keep ⟨by simp [go_sem], by simp [go_sem], by simp [go_sem], by simp [go_sem]⟩ hb1
  have B1 : Below w.heap.size w w1 := by repeat (first | (with_reducible exact Below.refl _ _) | (with_reducible refine bl_alloc ?_ _) | (with_reducible refine Below.drew ?_) | (with_reducible refine bl_drewN ?_ _) | (with_reducible refine bl_set ?_ (by omega) _) | (with_reducible refine bl_step ?_ (by assumption)))
  clear hb1
  obtain ⟨y0, y1, y2, y3⟩ := y
  have z := lt_of_cell y0
  go_wp2
  simp [bodyPost, results, Try.results12, go_sem, *]
  repeat (first | (with_reducible exact Below.refl _ _) | (with_reducible refine bl_alloc ?_ _) | (with_reducible refine Below.drew ?_) | (with_reducible refine bl_drewN ?_ _) | (with_reducible refine bl_set ?_ (by omega) _) | (with_reducible refine bl_step ?_ (by assumption)))
set_option maxRecDepth 100000 in
theorem trim_ok (m t lo hi : Int) (h0 : ckT m t = 0) (h1 : decide (lo < -2147483647) = false) (h2 : decide (2147483647 < hi) = false) (h3 : decide (hi < lo) = false) (M T : Int) (HS : Hid (∀ w : World, Calls Try.prog 15 #[th m t, th lo hi] w fun e w' => e = .returned (th M T) ∧ Below w.heap.size w w')) (w : World) :
    Calls Try.prog 12 #[th m t, th lo hi] w fun e w' => e = .returned (.tuple #[th M T, .int .i64 0]) ∧ Below w.heap.size w w' := by
  have H0 := hid1 (fck_any m t)
  rw [h0] at H0
  clear h0
  go_enter Try.func12, Try.ntmps12
  go_wp2_with fail
  refine (H0.out _).mono ?_
  rintro e w1 ⟨rfl, hb1⟩
  have c0 := keepc hb1 (b := w.heap.size) (o := 0) (v := .int .i64 m) (by simp [go_sem])
  have c1 := keepc hb1 (b := w.heap.size) (o := 1) (v := .int .i64 t) (by simp [go_sem])
  have d0 := keepc hb1 (b := w.heap.size + 1) (o := 0) (v := .int .i64 lo) (by simp [go_sem])
  have d1 := keepc hb1 (b := w.heap.size + 1) (o := 1) (v := .int .i64 hi) (by simp [go_sem])
  have y : Wz w1 (w.heap.size + 2) := Wz.keep ⟨by simp [go_sem], by simp [go_sem], by simp [go_sem], by simp [go_sem]⟩ hb1
  have B1 : Below w.heap.size w w1 := by repeat (first | (with_reducible exact Below.refl _ _) | (with_reducible refine bl_alloc ?_ _) | (with_reducible refine Below.drew ?_) | (with_reducible refine bl_drewN ?_ _) | (with_reducible refine bl_set ?_ (by omega) _) | (with_reducible refine bl_step ?_ (by assumption)))
  clear hb1
  go_wp2_with fail
  refine (HS.out _).mono ?_
  rintro e w2 ⟨rfl, hb2⟩
  replace y := y.keep hb2
  have B2 : Below w.heap.size w w2 := by repeat (first | (with_reducible exact Below.refl _ _) | (with_reducible refine bl_alloc ?_ _) | (with_reducible refine Below.drew ?_) | (with_reducible refine bl_drewN ?_ _) | (with_reducible refine bl_set ?_ (by omega) _) | (with_reducible refine bl_step ?_ (by assumption)))
  clear hb2 B1 c0 c1 d0 d1
  obtain ⟨y0, y1, y2, y3⟩ := y
  have z := lt_of_cell y0
  go_wp2
  simp [bodyPost, results, Try.results12, go_sem, *]
  repeat (first | (with_reducible exact Below.refl _ _) | (with_reducible refine bl_alloc ?_ _) | (with_reducible refine Below.drew ?_) | (with_reducible refine bl_drewN ?_ _) | (with_reducible refine bl_set ?_ (by omega) _) | (with_reducible refine bl_step ?_ (by assumption)))
theorem trim_any (m t lo hi : Int) (w : World) :
    Calls Try.prog 12 #[th m t, th lo hi] w fun e w' => e = .returned (.tuple #[th (trM m t lo hi) (trT m t lo hi), .int .i64 (trE m t lo hi)]) ∧ Below w.heap.size w w' := by
  by_cases h : okT m t
  · by_cases h1 : lo < -2147483647
    · have e : trE m t lo hi = 1 := by unfold trE; rw [if_pos h, if_neg (by omega)]
      have e1 : trM m t lo hi = 0 := by unfold trM; rw [e]; rfl
      have e2 : trT m t lo hi = 0 := by unfold trT; rw [e]; rfl
      rw [e, e1, e2]; exact trim_no2 m t lo hi (ckT_ok h) h1 w
    by_cases h2 : 2147483647 < hi
    · have e : trE m t lo hi = 1 := by unfold trE; rw [if_pos h, if_neg (by omega)]
      have e1 : trM m t lo hi = 0 := by unfold trM; rw [e]; rfl
      have e2 : trT m t lo hi = 0 := by unfold trT; rw [e]; rfl
      rw [e, e1, e2]; exact trim_no3 m t lo hi (ckT_ok h) (decide_eq_false h1) h2 w
    by_cases h3 : hi < lo
    · have e : trE m t lo hi = 1 := by unfold trE; rw [if_pos h, if_neg (by omega)]
      have e1 : trM m t lo hi = 0 := by unfold trM; rw [e]; rfl
      have e2 : trT m t lo hi = 0 := by unfold trT; rw [e]; rfl
      rw [e, e1, e2]; exact trim_no4 m t lo hi (ckT_ok h) (decide_eq_false h1) (decide_eq_false h2) h3 w
    have e : trE m t lo hi = 0 := by unfold trE; rw [if_pos h, if_pos (by omega)]
    have e1 : trM m t lo hi = stM m t lo hi := by unfold trM; rw [e]; rfl
    have e2 : trT m t lo hi = stT m t lo hi := by unfold trT; rw [e]; rfl
    rw [e, e1, e2]; exact trim_ok m t lo hi (ckT_ok h) (decide_eq_false h1) (decide_eq_false h2) (decide_eq_false h3) _ _ (hid1 (settled_any m t lo hi)) w
  · have e : trE m t lo hi = 191 := by unfold trE; rw [if_neg h]
    have e1 : trM m t lo hi = 0 := by unfold trM; rw [e]; rfl
    have e2 : trT m t lo hi = 0 := by unfold trT; rw [e]; rfl
    rw [e, e1, e2]; exact trim_no1 m t lo hi (ckT_no h) w
/-- Eight cells that may be written. -/
def W8 (w : World) (b : Nat) : Prop := (∀ j, j < 8 → w.cell? ⟨b, j, none⟩ = some (.int .i64 0)) ∧ ∀ j, w.frozen? ⟨b, j, none⟩ = false
theorem W8.keep {w w' : World} {b : Nat} (h : W8 w b) (hb : Below w.heap.size w w') : W8 w' b := by
  have z := lt_of_cell (h.1 0 (by decide))
  exact ⟨fun j hj => keepc hb (h.1 j hj), fun j => keepf hb z (h.2 j)⟩
theorem fwhole_any (n : Int) (w : World) :
    Calls Try.prog 24 #[.int .i64 n] w fun e w' => e = .returned (fr n 1) ∧ Below w.heap.size w w' := by
  go_enter Try.func24, Try.ntmps24
  go_wp2
  simp [bodyPost, results, Try.results24, go_sem]
  repeat (first | (with_reducible exact Below.refl _ _) | (with_reducible refine bl_alloc ?_ _) | (with_reducible refine Below.drew ?_) | (with_reducible refine bl_drewN ?_ _) | (with_reducible refine bl_set ?_ (by omega) _) | (with_reducible refine bl_step ?_ (by assumption)))
set_option maxRecDepth 100000 in
theorem fnorm_no (m t : Int) (h0 : ckT m t = 191) (w : World) :
    Calls Try.prog 13 #[th m t] w fun e w' => e = .returned (.tuple #[nm 0 0 0 0 0 0 0 0, .int .i64 191]) ∧ Below w.heap.size w w' := by
  have H0 := hid1 (fck_any m t)
  rw [h0] at H0
  clear h0
  go_enter Try.func13, Try.ntmps13
  go_wp2_with fail
  refine (H0.out _).mono ?_
  rintro e w1 ⟨rfl, hb1⟩
  have B1 : Below w.heap.size w w1 := by repeat (first | (with_reducible exact Below.refl _ _) | (with_reducible refine bl_alloc ?_ _) | (with_reducible refine Below.drew ?_) | (with_reducible refine bl_drewN ?_ _) | (with_reducible refine bl_set ?_ (by omega) _) | (with_reducible refine bl_step ?_ (by assumption)))
  have y : W8 w1 (w.heap.size + 1) := W8.keep ⟨fun j hj => by first | (match j, hj with | 0, _ => simp [go_sem] | 1, _ => simp [go_sem] | 2, _ => simp [go_sem] | 3, _ => simp [go_sem] | 4, _ => simp [go_sem] | 5, _ => simp [go_sem] | 6, _ => simp [go_sem] | 7, _ => simp [go_sem]), fun j => by simp [go_sem]⟩ hb1
  clear hb1
  have y0 := y.1 0 (by decide); have y1 := y.1 1 (by decide); have y2 := y.1 2 (by decide); have y3 := y.1 3 (by decide); have y4 := y.1 4 (by decide); have y5 := y.1 5 (by decide); have y6 := y.1 6 (by decide); have y7 := y.1 7 (by decide)
  have f0 := y.2 0; have f1 := y.2 1; have f2 := y.2 2; have f3 := y.2 3; have f4 := y.2 4; have f5 := y.2 5; have f6 := y.2 6; have f7 := y.2 7
  have z := lt_of_cell y0
  clear y
  go_wp2
  simp [bodyPost, results, Try.results13, go_sem, *]
  repeat (first | (with_reducible exact Below.refl _ _) | (with_reducible refine bl_alloc ?_ _) | (with_reducible refine Below.drew ?_) | (with_reducible refine bl_drewN ?_ _) | (with_reducible refine bl_set ?_ (by omega) _) | (with_reducible refine bl_step ?_ (by assumption)))
end Go.Proofs.Ytffhbfdbahdhoab
