/- PACKAGE fold: half, Fold. -/
import Derived.Test.YtffhbfdbahdhoabHW7
namespace Go.Proofs.Ytffhbfdbahdhoab
open Go.RowKit Go.Shelf Wd
attribute [local go_sem ↓] Go.wp_at_zero Go.wp_at_succ

def qc (gn md bd sd p : Int) (k : Nat) : Int := match k with | 0 => p | 1 => ceilN p gn | 2 => ceilN (ceilN p gn) md | 3 => ceilN (ceilN (ceilN p gn) md) bd | _ => c4 gn md bd sd p
def qf (gn md bd sd p : Int) (k : Nat) : Int := match k with | 0 => p | 1 => floorN p gn | 2 => floorN (floorN p gn) md | 3 => floorN (floorN (floorN p gn) md) bd | _ => f4 gn md bd sd p
theorem turn_Ceil_any {gn gd bn bd mn md sn sd : Int} (hg : Fr gn gd) (hb : Fr bn bd) (hm : Fr mn md) (hs : Fr sn sd) (h0 : gn ≠ 0) (w : World) :
    Calls Try.prog 26 #[nm gn gd bn bd mn md sn sd, fnv 27] w fun e w' => e = .returned (.int .i64 (cuN (c4 gn md bd sd (pP gn gd bn bd mn md sn sd)))) ∧ Below w.heap.size w w' := by
  obtain ⟨p1, p2⟩ := pP_bd hg hb hm hs
  have e1 := (round_bd (b := gn) (by omega) p1 p2).2
  have e2 := (round_bd (a := ceilN (pP gn gd bn bd mn md sn sd) gn) (b := md) (A := 10141204792673320000000000000001) (by have := hm.1; omega) (by omega) (by omega)).2
  have e3 := (round_bd (a := ceilN (ceilN (pP gn gd bn bd mn md sn sd) gn) md) (b := bd) (A := 10141204792673320000000000000002) (by have := hb.1; omega) (by omega) (by omega)).2
  have e4 := (round_bd (a := ceilN (ceilN (ceilN (pP gn gd bn bd mn md sn sd) gn) md) bd) (b := sd) (A := 10141204792673320000000000000003) (by have := hs.1; omega) (by omega) (by omega)).2
  have r0 : Rng (pP gn gd bn bd mn md sn sd) := by unfold Rng; omega
  have r1 : Rng (ceilN (pP gn gd bn bd mn md sn sd) gn) := by unfold Rng; omega
  have r2 : Rng (ceilN (ceilN (pP gn gd bn bd mn md sn sd) gn) md) := by unfold Rng; omega
  have r3 : Rng (ceilN (ceilN (ceilN (pP gn gd bn bd mn md sn sd) gn) md) bd) := by unfold Rng; omega
  have r4 : Rng (ceilN (ceilN (ceilN (ceilN (pP gn gd bn bd mn md sn sd) gn) md) bd) sd) := by unfold Rng; omega
  refine turn_Ceil gn gd bn bd mn md sn sd (mn * gn * bd * sd) (-1 * bn * sn * gd * md) (pP gn gd bn bd mn md sn sd) (qc gn md bd sd (pP gn gd bn bd mn md sn sd)) _ _ (hid1 rfl) (hid1 rfl) (hid1 rfl)
    (hid1 fun w g h => fprod_any 4 (by omega) _ (p4 mn gn bd sd) (hid1 rfl) (hid1 fun k hk w => mean_scale hg hb hm hs k hk w) w g h)
    (hid1 fun w g h => fprod_any 5 (by omega) _ (p5 (-1) bn sn gd md) (hid1 rfl) (hid1 fun k hk w => shift_scale hg hb hm hs k hk w) w g h)
    (hid1 fun w => wadd_ok _ _ r0 w) (hid1 fun k hk w => ?_) w
  match k, hk with
  | 0, _ => exact ceil_to r0 (i64_num hg) h0 r1 w
  | 1, _ => exact ceil_to r1 (i64_den hm).1 (by have := hm.1; omega) r2 w
  | 2, _ => exact ceil_to r2 (i64_den hb).1 (by have := hb.1; omega) r3 w
  | 3, _ => exact ceil_to r3 (i64_den hs).1 (by have := hs.1; omega) r4 w
theorem turn_Floor_any {gn gd bn bd mn md sn sd : Int} (hg : Fr gn gd) (hb : Fr bn bd) (hm : Fr mn md) (hs : Fr sn sd) (h0 : gn ≠ 0) (w : World) :
    Calls Try.prog 26 #[nm gn gd bn bd mn md sn sd, fnv 28] w fun e w' => e = .returned (.int .i64 (cuN (f4 gn md bd sd (pP gn gd bn bd mn md sn sd)))) ∧ Below w.heap.size w w' := by
  obtain ⟨p1, p2⟩ := pP_bd hg hb hm hs
  have e1 := (round_bd (b := gn) (by omega) p1 p2).1
  have e2 := (round_bd (a := floorN (pP gn gd bn bd mn md sn sd) gn) (b := md) (A := 10141204792673320000000000000001) (by have := hm.1; omega) (by omega) (by omega)).1
  have e3 := (round_bd (a := floorN (floorN (pP gn gd bn bd mn md sn sd) gn) md) (b := bd) (A := 10141204792673320000000000000002) (by have := hb.1; omega) (by omega) (by omega)).1
  have e4 := (round_bd (a := floorN (floorN (floorN (pP gn gd bn bd mn md sn sd) gn) md) bd) (b := sd) (A := 10141204792673320000000000000003) (by have := hs.1; omega) (by omega) (by omega)).1
  have r0 : Rng (pP gn gd bn bd mn md sn sd) := by unfold Rng; omega
  have r1 : Rng (floorN (pP gn gd bn bd mn md sn sd) gn) := by unfold Rng; omega
  have r2 : Rng (floorN (floorN (pP gn gd bn bd mn md sn sd) gn) md) := by unfold Rng; omega
  have r3 : Rng (floorN (floorN (floorN (pP gn gd bn bd mn md sn sd) gn) md) bd) := by unfold Rng; omega
  have r4 : Rng (floorN (floorN (floorN (floorN (pP gn gd bn bd mn md sn sd) gn) md) bd) sd) := by unfold Rng; omega
  refine turn_Floor gn gd bn bd mn md sn sd (mn * gn * bd * sd) (-1 * bn * sn * gd * md) (pP gn gd bn bd mn md sn sd) (qf gn md bd sd (pP gn gd bn bd mn md sn sd)) _ _ (hid1 rfl) (hid1 rfl) (hid1 rfl)
    (hid1 fun w g h => fprod_any 4 (by omega) _ (p4 mn gn bd sd) (hid1 rfl) (hid1 fun k hk w => mean_scale hg hb hm hs k hk w) w g h)
    (hid1 fun w g h => fprod_any 5 (by omega) _ (p5 (-1) bn sn gd md) (hid1 rfl) (hid1 fun k hk w => shift_scale hg hb hm hs k hk w) w g h)
    (hid1 fun w => wadd_ok _ _ r0 w) (hid1 fun k hk w => ?_) w
  match k, hk with
  | 0, _ => exact floor_to r0 (i64_num hg) h0 r1 w
  | 1, _ => exact floor_to r1 (i64_den hm).1 (by have := hm.1; omega) r2 w
  | 2, _ => exact floor_to r2 (i64_den hb).1 (by have := hb.1; omega) r3 w
  | 3, _ => exact floor_to r3 (i64_den hs).1 (by have := hs.1; omega) r4 w
set_option maxRecDepth 100000 in
theorem half_up (gn gd bn bd mn md sn sd : Int) (h : 0 < gn) (t : Int) (HT : Hid (∀ w : World, Calls Try.prog 26 #[nm gn gd bn bd mn md sn sd, fnv 27] w fun e w' => e = .returned (.int .i64 t) ∧ Below w.heap.size w w')) (w : World) :
    Calls Try.prog 16 #[nm gn gd bn bd mn md sn sd] w fun e w' => e = .returned (th 1 t) ∧ Below w.heap.size w w' := by
  go_enter Try.func16, Try.ntmps16
  go_wp2_with fail
  refine (HT.out _).mono ?_
  rintro e w1 ⟨rfl, hb1⟩
  obtain ⟨y0, y1, y2, y3⟩ : Wz w1 (w.heap.size + 1) := Wz.keep ⟨by simp [go_sem], by simp [go_sem], by simp [go_sem], by simp [go_sem]⟩ hb1
  have z := lt_of_cell y0
  go_wp2
  simp [bodyPost, results, Try.results16, go_sem, *]
  repeat (first | (with_reducible exact Below.refl _ _) | (with_reducible refine bl_alloc ?_ _) | (with_reducible refine Below.drew ?_) | (with_reducible refine bl_drewN ?_ _) | (with_reducible refine bl_set ?_ (by omega) _) | (with_reducible refine bl_step ?_ (by assumption)))
set_option maxRecDepth 100000 in
theorem half_dn (gn gd bn bd mn md sn sd : Int) (h : decide (0 < gn) = false) (h2 : gn < 0) (t : Int) (HT : Hid (∀ w : World, Calls Try.prog 26 #[nm gn gd bn bd mn md sn sd, fnv 28] w fun e w' => e = .returned (.int .i64 t) ∧ Below w.heap.size w w')) (w : World) :
    Calls Try.prog 16 #[nm gn gd bn bd mn md sn sd] w fun e w' => e = .returned (th 2 t) ∧ Below w.heap.size w w' := by
  go_enter Try.func16, Try.ntmps16
  go_wp2_with fail
  refine (HT.out _).mono ?_
  rintro e w1 ⟨rfl, hb1⟩
  obtain ⟨y0, y1, y2, y3⟩ : Wz w1 (w.heap.size + 1) := Wz.keep ⟨by simp [go_sem], by simp [go_sem], by simp [go_sem], by simp [go_sem]⟩ hb1
  have z := lt_of_cell y0
  go_wp2
  simp [bodyPost, results, Try.results16, go_sem, *]
  repeat (first | (with_reducible exact Below.refl _ _) | (with_reducible refine bl_alloc ?_ _) | (with_reducible refine Below.drew ?_) | (with_reducible refine bl_drewN ?_ _) | (with_reducible refine bl_set ?_ (by omega) _) | (with_reducible refine bl_step ?_ (by assumption)))
set_option maxRecDepth 100000 in
theorem half_yes (gn gd bn bd mn md sn sd : Int) (h : decide (0 < gn) = false) (h2 : decide (gn < 0) = false) (h3 : 0 ≤ bn) (w : World) :
    Calls Try.prog 16 #[nm gn gd bn bd mn md sn sd] w fun e w' => e = .returned (th 3 0) ∧ Below w.heap.size w w' := by
  go_enter Try.func16, Try.ntmps16
  go_wp2
  simp [bodyPost, results, Try.results16, go_sem, *]
  repeat (first | (with_reducible exact Below.refl _ _) | (with_reducible refine bl_alloc ?_ _) | (with_reducible refine Below.drew ?_) | (with_reducible refine bl_drewN ?_ _) | (with_reducible refine bl_set ?_ (by omega) _) | (with_reducible refine bl_step ?_ (by assumption)))
set_option maxRecDepth 100000 in
theorem half_no (gn gd bn bd mn md sn sd : Int) (h : decide (0 < gn) = false) (h2 : decide (gn < 0) = false) (h3 : decide (0 ≤ bn) = false) (w : World) :
    Calls Try.prog 16 #[nm gn gd bn bd mn md sn sd] w fun e w' => e = .returned (th 4 0) ∧ Below w.heap.size w w' := by
  go_enter Try.func16, Try.ntmps16
  go_wp2
  simp [bodyPost, results, Try.results16, go_sem, *]
  repeat (first | (with_reducible exact Below.refl _ _) | (with_reducible refine bl_alloc ?_ _) | (with_reducible refine Below.drew ?_) | (with_reducible refine bl_drewN ?_ _) | (with_reducible refine bl_set ?_ (by omega) _) | (with_reducible refine bl_step ?_ (by assumption)))
theorem half_any {gn gd bn bd mn md sn sd : Int} (hg : Fr gn gd) (hb : Fr bn bd) (hm : Fr mn md) (hs : Fr sn sd) (w : World) :
    Calls Try.prog 16 #[nm gn gd bn bd mn md sn sd] w fun e w' => e = .returned (th (haM gn bn) (haT gn gd bn bd mn md sn sd)) ∧ Below w.heap.size w w' := by
  unfold haM haT
  by_cases g1 : 0 < gn
  · rw [if_pos g1, if_pos g1]
    exact half_up gn gd bn bd mn md sn sd g1 _ (hid1 fun w => turn_Ceil_any hg hb hm hs (by omega) w) w
  · rw [if_neg g1, if_neg g1]
    by_cases g2 : gn < 0
    · rw [if_pos g2, if_pos g2]
      exact half_dn gn gd bn bd mn md sn sd (decide_eq_false g1) g2 _ (hid1 fun w => turn_Floor_any hg hb hm hs (by omega) w) w
    · rw [if_neg g2, if_neg g2]
      by_cases hb0 : 0 ≤ bn
      · rw [if_pos hb0]
        exact half_yes gn gd bn bd mn md sn sd (decide_eq_false g1) (decide_eq_false g2) hb0 w
      · rw [if_neg hb0]
        exact half_no gn gd bn bd mn md sn sd (decide_eq_false g1) (decide_eq_false g2) (decide_eq_false hb0) w
/-- What Fold answers. -/
def foA (e y : Int) : Int := if e = 0 then y else 0
set_option maxRecDepth 100000 in
theorem fold_no (gn gd bn bd mn md sn sd e : Int) (h : (e != 0) = true) (HN : Hid (∀ w : World, Calls Try.prog 14 #[nm gn gd bn bd mn md sn sd] w fun x w' => x = .returned (.int .i64 e) ∧ Below w.heap.size w w')) (w : World) :
    Calls Try.prog 6 #[nm gn gd bn bd mn md sn sd] w fun x w' => x = .returned (.tuple #[th 0 0, .int .i64 e]) ∧ Below w.heap.size w w' := by
  go_enter Try.func6, Try.ntmps6
  go_wp2_with fail
  refine (HN.out _).mono ?_
  rintro x w1 ⟨rfl, hb1⟩
  obtain ⟨y0, y1, y2, y3⟩ : Wz w1 (w.heap.size + 1) := Wz.keep ⟨by simp [go_sem], by simp [go_sem], by simp [go_sem], by simp [go_sem]⟩ hb1
  have z := lt_of_cell y0
  go_wp2
  simp [bodyPost, results, Try.results6, go_sem, *]
  repeat (first | (with_reducible exact Below.refl _ _) | (with_reducible refine bl_alloc ?_ _) | (with_reducible refine Below.drew ?_) | (with_reducible refine bl_drewN ?_ _) | (with_reducible refine bl_set ?_ (by omega) _) | (with_reducible refine bl_step ?_ (by assumption)))
set_option maxRecDepth 100000 in
theorem fold_ok (gn gd bn bd mn md sn sd m t M T : Int) (HN : Hid (∀ w : World, Calls Try.prog 14 #[nm gn gd bn bd mn md sn sd] w fun x w' => x = .returned (.int .i64 0) ∧ Below w.heap.size w w'))
    (HH : Hid (∀ w : World, Calls Try.prog 16 #[nm gn gd bn bd mn md sn sd] w fun x w' => x = .returned (th m t) ∧ Below w.heap.size w w'))
    (HS : Hid (∀ w : World, Calls Try.prog 15 #[th m t, th (-2147483647) 2147483647] w fun x w' => x = .returned (th M T) ∧ Below w.heap.size w w')) (w : World) :
    Calls Try.prog 6 #[nm gn gd bn bd mn md sn sd] w fun x w' => x = .returned (.tuple #[th M T, .int .i64 0]) ∧ Below w.heap.size w w' := by
  go_enter Try.func6, Try.ntmps6
  go_wp2_with fail
  refine (HN.out _).mono ?_
  rintro x w1 ⟨rfl, hb1⟩
  have y : Wz w1 (w.heap.size + 1) := Wz.keep ⟨by simp [go_sem], by simp [go_sem], by simp [go_sem], by simp [go_sem]⟩ hb1
  obtain ⟨c0, c1, c2, c3, c4, c5, c6, c7⟩ : Nm w1 w.heap.size gn gd bn bd mn md sn sd := Nm.keep ⟨by simp [go_sem], by simp [go_sem], by simp [go_sem], by simp [go_sem], by simp [go_sem], by simp [go_sem], by simp [go_sem], by simp [go_sem]⟩ hb1
  have B1 : Below w.heap.size w w1 := by repeat (first | (with_reducible exact Below.refl _ _) | (with_reducible refine bl_alloc ?_ _) | (with_reducible refine Below.drew ?_) | (with_reducible refine bl_drewN ?_ _) | (with_reducible refine bl_set ?_ (by omega) _) | (with_reducible refine bl_step ?_ (by assumption)))
  clear hb1
  go_wp2_with fail
  refine (HH.out _).mono ?_
  rintro x w2 ⟨rfl, hb2⟩
  replace y := y.keep hb2
  have B2 := bl_step B1 hb2
  clear hb2 B1 c0 c1 c2 c3 c4 c5 c6 c7
  go_wp2_with fail
  refine (HS.out _).mono ?_
  rintro x w3 ⟨rfl, hb3⟩
  replace y := y.keep hb3
  have B3 := bl_step B2 hb3
  clear hb3 B2
  obtain ⟨y0, y1, y2, y3⟩ := y
  have z := lt_of_cell y0
  go_wp2
  simp [bodyPost, results, Try.results6, go_sem, *]
  repeat (first | (with_reducible exact Below.refl _ _) | (with_reducible refine bl_alloc ?_ _) | (with_reducible refine Below.drew ?_) | (with_reducible refine bl_drewN ?_ _) | (with_reducible refine bl_set ?_ (by omega) _) | (with_reducible refine bl_step ?_ (by assumption)))
theorem fold_any (gn gd bn bd mn md sn sd : Int) (w : World) :
    Calls Try.prog 6 #[nm gn gd bn bd mn md sn sd] w fun x w' => x = .returned (.tuple #[th (foA (noE gn gd bn bd mn md sn sd) (foM gn gd bn bd mn md sn sd)) (foA (noE gn gd bn bd mn md sn sd) (foT gn gd bn bd mn md sn sd)), .int .i64 (noE gn gd bn bd mn md sn sd)]) ∧ Below w.heap.size w w' := by
  have HN := hid1 (norm_any gn gd bn bd mn md sn sd)
  unfold foA
  by_cases h : noE gn gd bn bd mn md sn sd = 0
  · rw [if_pos h, if_pos h, h]
    rw [h] at HN
    obtain ⟨hg, hb, hm, hs, s1⟩ := noE_ok h
    exact fold_ok gn gd bn bd mn md sn sd _ _ _ _ HN (hid1 fun w => half_any hg hb hm hs w) (hid1 fun w => settled_any _ _ _ _ w) w
  · rw [if_neg h, if_neg h]
    exact fold_no gn gd bn bd mn md sn sd _ (bne_iff_ne.2 h) HN w
theorem fo_all {gn gd bn bd mn md sn sd : Int} (h : noE gn gd bn bd mn md sn sd = 0) : FoP gn gd bn bd mn md sn sd (foM gn gd bn bd mn md sn sd) (foT gn gd bn bd mn md sn sd) := by
  obtain ⟨hg, hb, hm, hs, s1⟩ := noE_ok h
  exact fo_ok hg hb hm hs (by omega)
end Go.Proofs.Ytffhbfdbahdhoab
