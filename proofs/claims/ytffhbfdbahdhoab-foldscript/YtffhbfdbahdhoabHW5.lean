/- PACKAGE fold: Norm of a threshold that may be. -/
import Derived.Test.YtffhbfdbahdhoabHW4
namespace Go.Proofs.Ytffhbfdbahdhoab
open Go.RowKit Go.Shelf Wd
attribute [local go_sem ↓] Go.wp_at_zero Go.wp_at_succ

set_option maxRecDepth 100000 in
theorem fnorm_ok (m t l h g b : Int) (k : FuncId) (h0 : ckT m t = 0) (HM : Hid (∀ w : World, Calls Try.prog 23 #[.int .i64 m] w fun e w' => e = .returned (mdv (fnv k) l h g b) ∧ Below w.heap.size w w')) (w : World) :
    Calls Try.prog 13 #[th m t] w fun e w' => e = .returned (.tuple #[nm g 1 b 1 t 1 1 1, .int .i64 0]) ∧ Below w.heap.size w w' := by
  have H0 := hid1 (fck_any m t)
  rw [h0] at H0
  clear h0
  go_enter Try.func13, Try.ntmps13
  go_wp2_with fail
  refine (H0.out _).mono ?_
  rintro e w1 ⟨rfl, hb1⟩
  have B1 : Below w.heap.size w w1 := by repeat (first | (with_reducible exact Below.refl _ _) | (with_reducible refine bl_alloc ?_ _) | (with_reducible refine Below.drew ?_) | (with_reducible refine bl_drewN ?_ _) | (with_reducible refine bl_set ?_ (by omega) _) | (with_reducible refine bl_step ?_ (by assumption)))
  have c0 := keepc hb1 (b := w.heap.size) (o := 0) (v := .int .i64 m) (by simp [go_sem])
  have c1 := keepc hb1 (b := w.heap.size) (o := 1) (v := .int .i64 t) (by simp [go_sem])
  have HY : Hid (W8 w1 (w.heap.size + 1)) := hid1 (W8.keep ⟨fun j hj => by first | (match j, hj with | 0, _ => simp [go_sem] | 1, _ => simp [go_sem] | 2, _ => simp [go_sem] | 3, _ => simp [go_sem] | 4, _ => simp [go_sem] | 5, _ => simp [go_sem] | 6, _ => simp [go_sem] | 7, _ => simp [go_sem]), fun j => by simp [go_sem]⟩ hb1)
  clear hb1
  go_wp2_with fail
  refine (HM.out _).mono ?_
  rintro e w2 ⟨rfl, hb2⟩
  replace c1 := keepc hb2 c1
  replace HY := hid1 (HY.out.keep hb2)
  have B2 : Below w.heap.size w w2 := by repeat (first | (with_reducible exact Below.refl _ _) | (with_reducible refine bl_alloc ?_ _) | (with_reducible refine Below.drew ?_) | (with_reducible refine bl_drewN ?_ _) | (with_reducible refine bl_set ?_ (by omega) _) | (with_reducible refine bl_step ?_ (by assumption)))
  clear hb2 B1 c0
  have zM := lt_of_cell (HY.out.1 0 (by decide))
  have zM1 : ¬ w2.heap.size = w.heap.size + 1 := by omega
  have zM2 : ¬ w.heap.size + 1 = w2.heap.size := by omega
  go_upto_region 5 with fail
  refine gen_worldH (fun X => Hid (X.cell? ⟨w2.heap.size, 3, none⟩ = some (.int .i64 g) ∧ X.cell? ⟨w2.heap.size, 4, none⟩ = some (.int .i64 b) ∧ Below w2.heap.size w2 X)) (hid1 (And.intro (by simp [go_sem]) (And.intro (by simp [go_sem]) (by repeat (first | (with_reducible exact Below.refl _ _) | (with_reducible refine bl_alloc ?_ _) | (with_reducible refine Below.drew ?_) | (with_reducible refine bl_drewN ?_ _) | (with_reducible refine bl_set ?_ (by omega) _) | (with_reducible refine bl_step ?_ (by assumption))))))) ?_
  intro X HX
  have a3 := HX.out.1
  have a4 := HX.out.2.1
  have BX := HX.out.2.2
  replace c1 := keepc BX c1
  replace HY := hid1 (HY.out.keep BX)
  have HB := hid1 (bl_step B2 BX)
  clear HX BX B2
  generalize w2.heap.size = M at *
  have zn1 : ¬ w.heap.size = w.heap.size + 1 := by omega
  have zn2 : ¬ w.heap.size + 1 = w.heap.size := by omega
  have zz := lt_of_cell (HY.out.1 0 (by decide))
  go_region_held3 (fun W => W.cell? ⟨M, 3, none⟩ = some (.int .i64 g) ∧ W.cell? ⟨M, 4, none⟩ = some (.int .i64 b) ∧ W.cell? ⟨w.heap.size, 1, none⟩ = some (.int .i64 t)) (((try dsimp only); first | (simp [go_sem, *]; done) | exact ⟨keepc (W := X) (by repeat (first | (with_reducible exact Below.refl _ _) | (with_reducible refine bl_alloc ?_ _) | (with_reducible refine Below.drew ?_) | (with_reducible refine bl_drewN ?_ _) | (with_reducible refine bl_set ?_ (by omega) _) | (with_reducible refine bl_step ?_ (by assumption)))) a3, keepc (W := X) (by repeat (first | (with_reducible exact Below.refl _ _) | (with_reducible refine bl_alloc ?_ _) | (with_reducible refine Below.drew ?_) | (with_reducible refine bl_drewN ?_ _) | (with_reducible refine bl_set ?_ (by omega) _) | (with_reducible refine bl_step ?_ (by assumption)))) a4, keepc (W := X) (by repeat (first | (with_reducible exact Below.refl _ _) | (with_reducible refine bl_alloc ?_ _) | (with_reducible refine Below.drew ?_) | (with_reducible refine bl_drewN ?_ _) | (with_reducible refine bl_set ?_ (by omega) _) | (with_reducible refine bl_step ?_ (by assumption)))) c1⟩))
    (first
      | (go_at_call 24; (with_reducible refine (fwhole_any _ _).mono ?_); rintro e w3 ⟨rfl, hb3⟩; have bx : Below X.heap.size X w3 := (by repeat (first | (with_reducible exact Below.refl _ _) | (with_reducible refine bl_alloc ?_ _) | (with_reducible refine Below.drew ?_) | (with_reducible refine bl_drewN ?_ _) | (with_reducible refine bl_set ?_ (by omega) _) | (with_reducible refine bl_step ?_ (by assumption)))); have y := HY.out.keep bx; have y0 := y.1 0 (by decide); have f0 := y.2 0; have y1 := y.1 1 (by decide); have f1 := y.2 1; have y2 := y.1 2 (by decide); have f2 := y.2 2; have y3 := y.1 3 (by decide); have f3 := y.2 3; have y4 := y.1 4 (by decide); have f4 := y.2 4; have y5 := y.1 5 (by decide); have f5 := y.2 5; have y6 := y.1 6 (by decide); have f6 := y.2 6; have y7 := y.1 7 (by decide); have f7 := y.2 7; have zy := lt_of_cell y0; have u3 := keepc bx a3; have u4 := keepc bx a4; have u1 := keepc bx c1; have zm := lt_of_cell u3))
  all_goals go_wp2_with fail
  all_goals simp [bodyPost, results, Try.results13, go_sem, *]
  all_goals exact bl_set (bl_set (bl_set (bl_set (bl_set (bl_set (bl_set (bl_set (bl_step HB.out bx) (by omega) _) (by omega) _) (by omega) _) (by omega) _) (by omega) _) (by omega) _) (by omega) _) (by omega) _
theorem fnorm_any (m t : Int) (w : World) :
    Calls Try.prog 13 #[th m t] w fun e w' => e = .returned (.tuple #[nm (nT m t (gT m)) (nT m t 1) (nT m t (bT m)) (nT m t 1) (nT m t t) (nT m t 1) (nT m t 1) (nT m t 1), .int .i64 (ckT m t)]) ∧ Below w.heap.size w w' := by
  unfold nT
  by_cases h : okT m t
  · rw [if_pos h, if_pos h, if_pos h, if_pos h, ckT_ok h]
    exact fnorm_ok m t _ _ _ _ _ (ckT_ok h) (hid1 (mode_any m)) w
  · rw [if_neg h, if_neg h, if_neg h, if_neg h, ckT_no h]
    exact fnorm_no m t (ckT_no h) w
end Go.Proofs.Ytffhbfdbahdhoab
