/- STATEMENTS OF fold: begun. -/
import Derived.Test.YtffhbfdbahdhoabHW8
namespace Go.Proofs.Ytffhbfdbahdhoab
open Go.RowKit Go.Shelf Wd
attribute [local go_sem ↓] Go.wp_at_zero Go.wp_at_succ

theorem lwhole_any (n : Int) (w : World) :
    Calls Try.prog 9 #[.int .i64 n] w fun e w' => e = .returned (fr n 1) ∧ Below w.heap.size w w' := by
  go_enter Try.func9, Try.ntmps9
  go_wp2
  simp [bodyPost, results, Try.results9, go_sem]
  repeat (first | (with_reducible exact Below.refl _ _) | (with_reducible refine bl_alloc ?_ _) | (with_reducible refine Below.drew ?_) | (with_reducible refine bl_drewN ?_ _) | (with_reducible refine bl_set ?_ (by omega) _) | (with_reducible refine bl_step ?_ (by assumption)))
theorem k_no : noE 1 3 (-1) 1 1 2 1 2 = 0 := by decide
theorem k_foP : FoP 1 3 (-1) 1 1 2 1 2 1 2 := by
  refine ⟨by decide, fun x hx => ?_⟩
  rw [plT_1, decide_eq_decide]
  unfold nv
  omega
theorem k_fo : foM 1 3 (-1) 1 1 2 1 2 = 1 ∧ foT 1 3 (-1) 1 1 2 1 2 = 2 := (fo_all k_no).one k_foP
theorem k_a1 : foA 0 1 = 1 := by decide
theorem k_a2 : foA 0 2 = 2 := by decide
theorem k_tr : trM 1 3 (-2) 2 = 4 ∧ trT 1 3 (-2) 2 = 0 ∧ trE 1 3 (-2) 2 = 0 := by decide
set_option maxHeartbeats 800000 in
set_option maxRecDepth 100000 in
theorem obegun_any (w : World) :
    Calls Try.prog 5 #[] w fun e w' => e = .returned (.bool true) ∧ Below w.heap.size w w' := by
  have H1 := hid1 (fold_any 1 3 (-1) 1 1 2 1 2)
  rw [k_no, k_fo.1, k_fo.2, k_a1, k_a2] at H1
  have H2 := hid1 (fck_any 1 2)
  rw [show ckT 1 2 = 0 by decide] at H2
  have H3 := hid1 (plus_any 1 2 2)
  rw [show plT 1 2 2 = true by decide] at H3
  have H4 := hid1 (plus_any 1 2 1)
  rw [show plT 1 2 1 = false by decide] at H4
  have H5 := hid1 (trim_any 1 3 (-2) 2)
  rw [k_tr.1, k_tr.2.1, k_tr.2.2] at H5
  have H6 := hid1 (fnorm_any 2 (-4))
  rw [show nT 2 (-4) (gT 2) = -1 by decide, show nT 2 (-4) 1 = 1 by decide, show nT 2 (-4) (bT 2) = 0 by decide, show nT 2 (-4) (-4) = -4 by decide, show ckT 2 (-4) = 0 by decide] at H6
  go_enter Try.func5, Try.ntmps5
  go_wp2_with fail
  refine (lwhole_any _ _).mono ?_
  rintro e w1 ⟨rfl, hb1⟩
  go_wp2_with fail
  refine (H1.out _).mono ?_
  rintro e w2 ⟨rfl, hb2⟩
  have B2 := bl_step hb1 hb2
  clear hb1 hb2
  go_wp2_with fail
  refine gen_calls (fun X => Hid (C2 X w2.heap.size 1 2) ∧ Below w.heap.size w X) ⟨hid1 ⟨by simp [go_sem], by simp [go_sem]⟩, by repeat (first | (with_reducible exact Below.refl _ _) | (with_reducible refine bl_alloc ?_ _) | (with_reducible refine Below.drew ?_) | (with_reducible refine bl_drewN ?_ _) | (with_reducible refine bl_set ?_ (by omega) _) | (with_reducible refine bl_step ?_ (by assumption)))⟩ ?_
  clear B2
  rintro X ⟨HC, B2⟩
  refine (H2.out _).mono ?_
  rintro e w3 ⟨rfl, hb3⟩
  replace HC := hid1 (HC.out.keep hb3)
  have B3 := bl_step B2 hb3
  clear hb3 B2
  obtain ⟨c0, c1⟩ := HC.out
  go_wp2_with fail
  refine (H3.out _).mono ?_
  rintro e w4 ⟨rfl, hb4⟩
  have B4 := bl_step B3 hb4
  replace c0 := keepc hb4 c0
  replace c1 := keepc hb4 c1
  clear hb4 B3 HC
  go_wp2_with fail
  refine (H4.out _).mono ?_
  rintro e w5 ⟨rfl, hb5⟩
  have B5 := bl_step B4 hb5
  clear hb5 B4 c0 c1
  go_wp2_with fail
  refine (H5.out _).mono ?_
  rintro e w6 ⟨rfl, hb6⟩
  have B6 := bl_step B5 hb6
  clear hb6 B5
  go_wp2_with fail
  refine gen_calls (fun X => Hid (C2 X w6.heap.size 4 0) ∧ Below w.heap.size w X) ⟨hid1 ⟨by simp [go_sem], by simp [go_sem]⟩, by repeat (first | (with_reducible exact Below.refl _ _) | (with_reducible refine bl_alloc ?_ _) | (with_reducible refine Below.drew ?_) | (with_reducible refine bl_drewN ?_ _) | (with_reducible refine bl_set ?_ (by omega) _) | (with_reducible refine bl_step ?_ (by assumption)))⟩ ?_
  clear B6
  rintro X6 ⟨HC, B6⟩
  refine (H6.out _).mono ?_
  rintro e w7 ⟨rfl, hb7⟩
  replace HC := hid1 (HC.out.keep hb7)
  have B7 := bl_step B6 hb7
  clear hb7 B6
  generalize w6.heap.size = M at *
  have zM := lt_of_cell HC.out.1
  go_upto_region 6 with fail
  refine gen_worldH (fun X => Hid (C2 X M 4 0) ∧ Hid (Nm X w7.heap.size (-1) 1 0 1 (-4) 1 1 1) ∧ Below w.heap.size w X) ⟨by
    obtain ⟨c0, c1⟩ := HC.out
    exact hid1 ⟨by simp [go_sem, *], by simp [go_sem, *]⟩, hid1 ⟨by simp [go_sem], by simp [go_sem], by simp [go_sem], by simp [go_sem], by simp [go_sem], by simp [go_sem], by simp [go_sem], by simp [go_sem]⟩, by repeat (first | (with_reducible exact Below.refl _ _) | (with_reducible refine bl_alloc ?_ _) | (with_reducible refine Below.drew ?_) | (with_reducible refine bl_drewN ?_ _) | (with_reducible refine bl_set ?_ (by omega) _) | (with_reducible refine bl_step ?_ (by assumption)))⟩ ?_
  clear B7 HC
  rintro X ⟨HC, HN, BX⟩
  have c0 := HC.out.1
  have c1 := HC.out.2
  obtain ⟨n0, n1, n2, n3, n4, n5, n6, n7⟩ := HN.out
  have HB := hid1 BX
  clear HC HN BX zM H1 H2 H3 H4 H5 H6
  generalize w7.heap.size = N at *
  go_region_held3 (fun W => (W.cell? ⟨M, 0, none⟩ = some (.int .i64 4) ∧ W.cell? ⟨M, 1, none⟩ = some (.int .i64 0)) ∧ W.cell? ⟨N, 0, none⟩ = some (.int .i64 (-1)) ∧ W.cell? ⟨N, 1, none⟩ = some (.int .i64 1) ∧ W.cell? ⟨N, 2, none⟩ = some (.int .i64 0) ∧ W.cell? ⟨N, 3, none⟩ = some (.int .i64 1) ∧ W.cell? ⟨N, 4, none⟩ = some (.int .i64 (-4)) ∧ W.cell? ⟨N, 5, none⟩ = some (.int .i64 1) ∧ W.cell? ⟨N, 6, none⟩ = some (.int .i64 1) ∧ W.cell? ⟨N, 7, none⟩ = some (.int .i64 1)) (((try dsimp only); refine (fun hh => ⟨⟨keepc (W := X) hh c0, keepc (W := X) hh c1⟩, keepc (W := X) hh n0, keepc (W := X) hh n1, keepc (W := X) hh n2, keepc (W := X) hh n3, keepc (W := X) hh n4, keepc (W := X) hh n5, keepc (W := X) hh n6, keepc (W := X) hh n7⟩) ?_; repeat (first | (with_reducible exact Below.refl _ _) | (with_reducible refine bl_alloc ?_ _) | (with_reducible refine Below.drew ?_) | (with_reducible refine bl_drewN ?_ _) | (with_reducible refine bl_set ?_ (by omega) _) | (with_reducible refine bl_step ?_ (by assumption)))))
    (first
      | (go_at_call 9; (with_reducible refine (lwhole_any _ _).mono ?_); rintro e w8 ⟨rfl, hb8⟩))
  all_goals go_wp2_with fail
  all_goals go_ret
  all_goals exact ⟨rfl, bl_step HB.out (by repeat (first | (with_reducible exact Below.refl _ _) | (with_reducible refine bl_alloc ?_ _) | (with_reducible refine Below.drew ?_) | (with_reducible refine bl_drewN ?_ _) | (with_reducible refine bl_set ?_ (by omega) _) | (with_reducible refine bl_step ?_ (by assumption))))⟩
end Go.Proofs.Ytffhbfdbahdhoab
