/- BEGUN: THE CALLS WHOSE ANSWERS THE DOCUMENT FIXES. -/
import Derived.Test.YtboabgjgcnkelabDoorFW6
namespace Go.Proofs.YtboabgjgcnkelabDoor
open Go.RowKit Go.Shelf
attribute [local go_sem ↓] Go.wp_at_zero Go.wp_at_succ

theorem whole_any (n : Int) (w : World) :
    Calls Tryd.prog 13 #[.int .i64 n] w fun e w' => e = .returned (fr n 1) ∧ Below w.heap.size w w' := by
  go_enter Tryd.func13, Tryd.ntmps13
  go_wp2
  simp [bodyPost, results, Tryd.results13, go_sem]
  repeat (first | exact Below.refl _ _ | refine bl_alloc ?_ _ | refine Below.drew ?_ | refine bl_drewN ?_ _ | refine bl_set ?_ (by omega) _ | refine bl_step ?_ (by assumption))
theorem v_p1 : plV 1 3 (-1) 1 1 2 1 2 1 = false := by decide
theorem v_p2 : plV 1 3 (-1) 1 1 2 1 2 2 = true := by decide
theorem v_e1 : plE 1 3 (-1) 1 1 2 1 2 1 = 0 := by decide
theorem v_e2 : plE 1 3 (-1) 1 1 2 1 2 2 = 0 := by decide
theorem v_no : noE 1 3 (-1) 1 1 2 1 2 = 0 := by decide
theorem v_rn : rnV (-6) 4 = -3 := by decide
theorem v_rd : rdV (-6) 4 = 2 := by decide
theorem v_ch : chF (-6) 4 = 0 := by decide
theorem v_ch2 : chF 4 2 = 0 := by decide
theorem v_ch3 : chF 5 1 = 0 := by decide
theorem v_cm : cmF 1 2 2 4 = 0 := by decide
theorem v_ce : ceF 1 2 2 4 = 0 := by decide
theorem v_sh : (⟨(shV 4 2).toArray⟩ : ByteArray) = ⟨#[52, 47, 50]⟩ := by decide +kernel
set_option maxHeartbeats 800000 in
set_option maxRecDepth 100000 in
theorem fbegun_any (w : World) (L : LaidP w) :
    Calls Tryd.prog 6 #[] w fun e w' => e = .returned (.bool true) ∧ Below w.heap.size w w' := by
  have HL := hid1 L
  clear L
  have H1 := hid1 (fplus_any 1 3 (-1) 1 1 2 1 2 1)
  have H2 := hid1 (fplus_any 1 3 (-1) 1 1 2 1 2 2)
  have H3 := hid1 (reduce_any (-6) 4)
  have H4 := hid1 (fshow_any 4 2)
  have H5 := hid1 (fcmp_any 1 2 2 4)
  have H6 := hid1 (fcheck_any 5 1)
  have H7 := hid1 (norm_any 1 3 (-1) 1 1 2 1 2)
  rw [v_p1, v_e1] at H1
  rw [v_p2, v_e2] at H2
  rw [v_rn, v_rd, v_ch] at H3
  rw [v_sh, v_ch2] at H4
  rw [v_cm, v_ce] at H5
  rw [v_ch3] at H6
  rw [v_no] at H7
  go_enter Tryd.func6, Tryd.ntmps6
  go_wp2_with fail
  refine (whole_any _ _).mono ?_
  rintro e w1 ⟨rfl, hb1⟩
  go_wp2_with fail
  refine gen_calls (fun W' => Below w.heap.size w W' ∧ Hid (Nm W' w1.heap.size 1 3 (-1) 1 1 2 1 2)) ⟨by repeat (first | exact Below.refl _ _ | refine bl_alloc ?_ _ | refine Below.drew ?_ | refine bl_drewN ?_ _ | refine bl_set ?_ (by omega) _ | refine bl_step ?_ (by assumption)), hid1 ⟨by simp [go_sem], by simp [go_sem], by simp [go_sem], by simp [go_sem], by simp [go_sem], by simp [go_sem], by simp [go_sem], by simp [go_sem]⟩⟩ ?_
  rintro W1 ⟨B1, HM⟩
  clear hb1
  refine (H1.out _).mono ?_
  rintro e w2 ⟨rfl, hb2⟩
  replace HM := hid1 (HM.out.keep hb2)
  have B2 : Below w.heap.size w w2 := by repeat (first | exact Below.refl _ _ | refine bl_alloc ?_ _ | refine Below.drew ?_ | refine bl_drewN ?_ _ | refine bl_set ?_ (by omega) _ | refine bl_step ?_ (by assumption))
  clear hb2 B1
  obtain ⟨c0, c1, c2, c3, c4, c5, c6, c7⟩ := HM.out
  go_wp2_with fail
  refine (H2.out _).mono ?_
  rintro e w3 ⟨rfl, hb3⟩
  replace HM := hid1 (HM.out.keep hb3)
  have B3 : Below w.heap.size w w3 := by repeat (first | exact Below.refl _ _ | refine bl_alloc ?_ _ | refine Below.drew ?_ | refine bl_drewN ?_ _ | refine bl_set ?_ (by omega) _ | refine bl_step ?_ (by assumption))
  clear hb3 B2 c0 c1 c2 c3 c4 c5 c6 c7
  go_wp2_with fail
  refine (H3.out _).mono ?_
  rintro e w4 ⟨rfl, hb4⟩
  replace HM := hid1 (HM.out.keep hb4)
  have B4 : Below w.heap.size w w4 := by repeat (first | exact Below.refl _ _ | refine bl_alloc ?_ _ | refine Below.drew ?_ | refine bl_drewN ?_ _ | refine bl_set ?_ (by omega) _ | refine bl_step ?_ (by assumption))
  clear hb4 B3
  go_wp2_with fail
  refine gen_calls (fun W' => Below w.heap.size w W' ∧ Below w4.heap.size w4 W' ∧ W'.cell? ⟨w4.heap.size, 0, none⟩ = some (.int .i64 (-3)) ∧ W'.cell? ⟨w4.heap.size, 1, none⟩ = some (.int .i64 2)) ⟨by repeat (first | exact Below.refl _ _ | refine bl_alloc ?_ _ | refine Below.drew ?_ | refine bl_drewN ?_ _ | refine bl_set ?_ (by omega) _ | refine bl_step ?_ (by assumption)), by repeat (first | exact Below.refl _ _ | refine bl_alloc ?_ _ | refine Below.drew ?_ | refine bl_drewN ?_ _ | refine bl_set ?_ (by omega) _ | refine bl_step ?_ (by assumption)), by simp [go_sem], by simp [go_sem]⟩ ?_
  rintro W5 ⟨B5, b45, r0, r1⟩
  replace HM := hid1 (HM.out.keep b45)
  clear b45 B4
  refine (H4.out _ (HL.out.on B5)).mono ?_
  rintro e w6 ⟨rfl, hb6⟩
  replace HM := hid1 (HM.out.keep hb6)
  replace r0 := keepc hb6 r0; replace r1 := keepc hb6 r1
  have B6 : Below w.heap.size w w6 := by repeat (first | exact Below.refl _ _ | refine bl_alloc ?_ _ | refine Below.drew ?_ | refine bl_drewN ?_ _ | refine bl_set ?_ (by omega) _ | refine bl_step ?_ (by assumption))
  clear hb6 B5
  go_wp2_with fail
  refine (H5.out _).mono ?_
  rintro e w7 ⟨rfl, hb7⟩
  replace HM := hid1 (HM.out.keep hb7)
  replace r0 := keepc hb7 r0; replace r1 := keepc hb7 r1
  have B7 : Below w.heap.size w w7 := by repeat (first | exact Below.refl _ _ | refine bl_alloc ?_ _ | refine Below.drew ?_ | refine bl_drewN ?_ _ | refine bl_set ?_ (by omega) _ | refine bl_step ?_ (by assumption))
  clear hb7 B6
  go_wp2_with fail
  refine (whole_any _ _).mono ?_
  rintro e w8 ⟨rfl, hb8⟩
  replace HM := hid1 (HM.out.keep hb8)
  replace r0 := keepc hb8 r0; replace r1 := keepc hb8 r1
  have B8 : Below w.heap.size w w8 := by repeat (first | exact Below.refl _ _ | refine bl_alloc ?_ _ | refine Below.drew ?_ | refine bl_drewN ?_ _ | refine bl_set ?_ (by omega) _ | refine bl_step ?_ (by assumption))
  clear hb8 B7
  go_wp2_with fail
  refine (H6.out _).mono ?_
  rintro e w9 ⟨rfl, hb9⟩
  replace HM := hid1 (HM.out.keep hb9)
  have B9 : Below w.heap.size w w9 := by repeat (first | exact Below.refl _ _ | refine bl_alloc ?_ _ | refine Below.drew ?_ | refine bl_drewN ?_ _ | refine bl_set ?_ (by omega) _ | refine bl_step ?_ (by assumption))
  clear hb9 B8
  obtain ⟨c0, c1, c2, c3, c4, c5, c6, c7⟩ := HM.out
  go_wp2_with fail
  refine (H7.out _).mono ?_
  rintro e w10 ⟨rfl, hb10⟩
  go_wp2
  go_ret
  refine ⟨rfl, ?_⟩
  repeat (first | exact Below.refl _ _ | refine bl_alloc ?_ _ | refine Below.drew ?_ | refine bl_drewN ?_ _ | refine bl_set ?_ (by omega) _ | refine bl_step ?_ (by assumption))
/-- A fraction made of any. -/
def tmN (n : Int) : Int := n.tmod 2147483648
def tmD (d : Int) : Int := (if d.tmod 1048576 < 0 then -d.tmod 1048576 else d.tmod 1048576) + 1
theorem tmod_rng (n : Int) {k : Int} (hk : 0 < k) : -k < n.tmod k ∧ n.tmod k < k := by
  have h1 := Int.tmod_lt_of_pos n hk
  have h2 := Int.tmod_lt_of_pos (-n) hk
  rw [Int.neg_tmod] at h2
  omega
theorem tame_fr (n d : Int) : Fr (tmN n) (tmD d) := by
  have h1 := tmod_rng n (k := 2147483648) (by decide)
  have h2 := tmod_rng d (k := 1048576) (by decide)
  unfold Fr tmN tmD
  split <;> omega
set_option maxRecDepth 100000 in
theorem tame_any (n d : Int) (w : World) :
    Calls Tryd.prog 7 #[fr n d] w fun e w' => e = .returned (fr (tmN n) (tmD d)) ∧ Below w.heap.size w w' := by
  have h1 := tmod_rng n (k := 2147483648) (by decide)
  have h2 := tmod_rng d (k := 1048576) (by decide)
  unfold tmN tmD
  obtain ⟨a, ea⟩ : ∃ a, n.tmod 2147483648 = a := ⟨_, rfl⟩
  obtain ⟨b, eb⟩ : ∃ b, d.tmod 1048576 = b := ⟨_, rfl⟩
  rw [ea] at h1 ⊢
  rw [eb] at h2 ⊢
  obtain ⟨h1a, h1b⟩ := h1
  obtain ⟨h2a, h2b⟩ := h2
  by_cases h : b < 0
  · rw [if_pos h]
    go_enter Tryd.func7, Tryd.ntmps7
    go_wp2
    simp [bodyPost, results, Tryd.results7, go_sem, *]
    repeat (first | exact Below.refl _ _ | refine bl_alloc ?_ _ | refine Below.drew ?_ | refine bl_drewN ?_ _ | refine bl_set ?_ (by omega) _ | refine bl_step ?_ (by assumption))
  · rw [if_neg h]
    go_enter Tryd.func7, Tryd.ntmps7
    go_wp2
    simp [bodyPost, results, Tryd.results7, go_sem, *]
    repeat (first | exact Below.refl _ _ | refine bl_alloc ?_ _ | refine Below.drew ?_ | refine bl_drewN ?_ _ | refine bl_set ?_ (by omega) _ | refine bl_step ?_ (by assumption))
end Go.Proofs.YtboabgjgcnkelabDoor
