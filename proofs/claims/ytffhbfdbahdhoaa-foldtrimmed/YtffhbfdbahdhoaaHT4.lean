/- FoldRises, WALKED. -/
import Derived.Test.YtffhbfdbahdhoaaHT3
namespace Go.Proofs.Ytffhbfdbahdhoaa
open Go.RowKit Go.Shelf Wd
attribute [local go_sem ↓] Go.wp_at_zero Go.wp_at_succ

theorem gen_thenH {K : Act → World → Prop} {Q : Exit → Act → World → Prop} {a : Act} {W : World} (p : World → Prop) (hp : p W) (h : ∀ W', p W' → Exit.then K Q .normal a W') : Exit.then K Q .normal a W := h W hp
theorem fr_neg {n d : Int} (h : Fr n d) : Fr (-n) d := by obtain ⟨a, b, c, e⟩ := h; exact ⟨a, b, by omega, by omega⟩
theorem no_neg {gn gd bn bd mn md sn sd : Int} (h : noE gn gd bn bd mn md sn sd = 0) : noE (-gn) gd bn bd (-mn) md sn sd = 0 := by
  obtain ⟨a, b, c, d, e⟩ := noE_ok h
  unfold noE
  rw [if_pos ⟨fr_neg a, b, fr_neg c, d⟩, if_neg (by omega)]
theorem rises {gn gd bn bd mn md sn sd m t x y : Int} (h : noE gn gd bn bd mn md sn sd = 0) (hP : FoP gn gd bn bd mn md sn sd m t) (hx : Sm x) (hy : Sm y) (hxy : x ≤ y) :
    (0 < gn → plT m t x = true → plT m t y = true) ∧ (gn < 0 → plT m t y = true → plT m t x = true) ∧ (gn = 0 → plT m t x = plT m t y) := by
  obtain ⟨hg, hb, hm, hs, s1⟩ := noE_ok h
  rw [hP.2 x hx, hP.2 y hy]
  refine ⟨fun g a => ?_, fun g a => ?_, fun g => ?_⟩
  · have k := nv_up (gn := gn) (gd := gd) (by omega) hb hm hs hxy
    have a' := of_decide_eq_true a
    exact decide_eq_true (by omega)
  · have k := nv_down (gn := gn) (gd := gd) (by omega) hb hm hs hxy
    have a' := of_decide_eq_true a
    exact decide_eq_true (by omega)
  · have k1 := nv_up (gn := gn) (gd := gd) (by omega) hb hm hs hxy
    have k2 := nv_down (gn := gn) (gd := gd) (by omega) hb hm hs hxy
    rw [decide_eq_decide]; omega
set_option maxRecDepth 100000 in
theorem foldRises_no (gn gd bn bd mn md sn sd a b e : Int) (he : (e != 0) = true) (HF : Hid (∀ w : World, Calls Try.prog 13 #[nm gn gd bn bd mn md sn sd] w fun x w' => x = .returned (.tuple #[th 0 0, .int .i64 e]) ∧ Below w.heap.size w w')) (w : World) :
    Calls Try.prog 5 #[nm gn gd bn bd mn md sn sd, .int .i64 a, .int .i64 b] w fun x w' => x = .returned (.bool true) ∧ Below w.heap.size w w' := by
  go_enter Try.func5, Try.ntmps5
  go_wp2_with fail
  refine (obegun_any _).mono ?_
  rintro x w1 ⟨rfl, hb1⟩
  obtain ⟨c0, c1, c2, c3, c4, c5, c6, c7⟩ : Nm w1 w.heap.size gn gd bn bd mn md sn sd := Nm.keep ⟨by simp [go_sem], by simp [go_sem], by simp [go_sem], by simp [go_sem], by simp [go_sem], by simp [go_sem], by simp [go_sem], by simp [go_sem]⟩ hb1
  have B1 : Below w.heap.size w w1 := by repeat (first | (with_reducible exact Below.refl _ _) | (with_reducible refine bl_alloc ?_ _) | (with_reducible refine Below.drew ?_) | (with_reducible refine bl_drewN ?_ _) | (with_reducible refine bl_set ?_ (by omega) _) | (with_reducible refine bl_step ?_ (by assumption)))
  clear hb1
  go_wp2_with fail
  refine (HF.out _).mono ?_
  rintro x w3 ⟨rfl, hb3⟩
  have B3 := bl_step B1 hb3
  clear hb3 B1
  go_wp2
  go_ret
  exact ⟨rfl, by repeat (first | (with_reducible exact Below.refl _ _) | (with_reducible refine bl_alloc ?_ _) | (with_reducible refine Below.drew ?_) | (with_reducible refine bl_drewN ?_ _) | (with_reducible refine bl_set ?_ (by omega) _) | (with_reducible refine bl_step ?_ (by assumption)))⟩
set_option maxHeartbeats 1600000 in
set_option maxRecDepth 100000 in
theorem foldRises_ok (gn gd bn bd mn md sn sd m t a b xa xb X Y u v : Int) (p q : Bool) (i1 : -2147483647 ≤ gn) (i2 : gn ≤ 2147483647) (j1 : -2147483647 ≤ mn) (j2 : mn ≤ 2147483647) (x1 : -2147483647 ≤ X) (x2 : X ≤ 2147483647) (y1 : -2147483647 ≤ Y) (y2 : Y ≤ 2147483647)
    (HF : Hid (∀ w : World, Calls Try.prog 13 #[nm gn gd bn bd mn md sn sd] w fun x w' => x = .returned (.tuple #[th m t, .int .i64 0]) ∧ Below w.heap.size w w'))
    (HF2 : Hid (∀ w : World, Calls Try.prog 13 #[nm (-gn) gd bn bd (-mn) md sn sd] w fun x w' => x = .returned (.tuple #[th u v, .int .i64 0]) ∧ Below w.heap.size w w'))
    (HA : Hid (∀ w : World, Calls Try.prog 15 #[.int .i64 a] w fun x w' => x = .returned (.int .i64 xa) ∧ w' = w))
    (HB : Hid (∀ w : World, Calls Try.prog 15 #[.int .i64 b] w fun x w' => x = .returned (.int .i64 xb) ∧ w' = w))
    (HO : Hid ((xb < xa ∧ X = xb ∧ Y = xa) ∨ (decide (xb < xa) = false ∧ X = xa ∧ Y = xb)))
    (HP : Hid (∀ w : World, Calls Try.prog 14 #[th m t, .int .i64 X] w fun x w' => x = .returned (.bool p) ∧ Below w.heap.size w w'))
    (HQ : Hid (∀ w : World, Calls Try.prog 14 #[th m t, .int .i64 Y] w fun x w' => x = .returned (.bool q) ∧ Below w.heap.size w w'))
    (HP2 : Hid (∀ w : World, Calls Try.prog 14 #[th u v, .int .i64 (-X)] w fun x w' => x = .returned (.bool p) ∧ Below w.heap.size w w'))
    (HQ2 : Hid (∀ w : World, Calls Try.prog 14 #[th u v, .int .i64 (-Y)] w fun x w' => x = .returned (.bool q) ∧ Below w.heap.size w w'))
    (HG : Hid ((0 < gn → p = true → q = true) ∧ (gn < 0 → q = true → p = true) ∧ (gn = 0 → p = q))) (w : World) :
    Calls Try.prog 5 #[nm gn gd bn bd mn md sn sd, .int .i64 a, .int .i64 b] w fun x w' => x = .returned (.bool true) ∧ Below w.heap.size w w' := by
  go_enter Try.func5, Try.ntmps5
  go_wp2_with fail
  refine (obegun_any _).mono ?_
  rintro x w1 ⟨rfl, hb1⟩
  obtain ⟨c0, c1, c2, c3, c4, c5, c6, c7⟩ : Nm w1 w.heap.size gn gd bn bd mn md sn sd := Nm.keep ⟨by simp [go_sem], by simp [go_sem], by simp [go_sem], by simp [go_sem], by simp [go_sem], by simp [go_sem], by simp [go_sem], by simp [go_sem]⟩ hb1
  have B1 : Below w.heap.size w w1 := by repeat (first | (with_reducible exact Below.refl _ _) | (with_reducible refine bl_alloc ?_ _) | (with_reducible refine Below.drew ?_) | (with_reducible refine bl_drewN ?_ _) | (with_reducible refine bl_set ?_ (by omega) _) | (with_reducible refine bl_step ?_ (by assumption)))
  clear hb1
  go_wp2_with fail
  refine (HF.out _).mono ?_
  rintro x w3 ⟨rfl, hb3⟩
  obtain ⟨c0, c1, c2, c3, c4, c5, c6, c7⟩ : Nm w3 w.heap.size gn gd bn bd mn md sn sd := Nm.keep ⟨c0, c1, c2, c3, c4, c5, c6, c7⟩ hb3
  have B3 := bl_step B1 hb3
  have z3 := lt_of_cell c0
  clear hb3 B1
  go_upto_region 7 with fail
  refine gen_worldH (fun X => Hid (Nm X w.heap.size gn gd bn bd mn md sn sd) ∧ Hid (C2 X w3.heap.size m t) ∧ Below w.heap.size w X) ⟨hid1 ⟨by simp [go_sem, *], by simp [go_sem, *], by simp [go_sem, *], by simp [go_sem, *], by simp [go_sem, *], by simp [go_sem, *], by simp [go_sem, *], by simp [go_sem, *]⟩, hid1 ⟨by simp [go_sem], by simp [go_sem]⟩, by repeat (first | (with_reducible exact Below.refl _ _) | (with_reducible refine bl_alloc ?_ _) | (with_reducible refine Below.drew ?_) | (with_reducible refine bl_drewN ?_ _) | (with_reducible refine bl_set ?_ (by omega) _) | (with_reducible refine bl_step ?_ (by assumption)))⟩ ?_
  clear c0 c1 c2 c3 c4 c5 c6 c7 B3 z3
  rintro V ⟨HM, HD, BV⟩
  generalize w3.heap.size = G at *
  go_wp2_with fail
  refine (HA.out _).mono ?_
  rintro x wa ⟨rfl, ea⟩
  subst ea
  go_wp2_with fail
  refine (HB.out _).mono ?_
  rintro x wb ⟨rfl, eb⟩
  subst eb
  go_upto_if 33 with fail
  go_cut [10, 11] (fun s10 s11 wx => s10 = .int .i64 X ∧ s11 = .int .i64 Y ∧ wx = wb)
  case first =>
    rcases HO.out with ⟨o1, rfl, rfl⟩ | ⟨o1, rfl, rfl⟩
    · go_wp2
      go_meet
      exact ⟨rfl, rfl, rfl⟩
    · have o2 := of_decide_eq_false o1
      clear o1
      have o3 : X ≤ Y := by omega
      clear o2
      go_wp2
      go_meet
      exact ⟨rfl, rfl, rfl⟩
  case rest =>
    obtain ⟨rfl, rfl, rfl⟩ := hcut
    clear HO HA HB
    obtain ⟨d0, d1⟩ := HD.out
    go_wp2_with fail
    refine (HP.out _).mono ?_
    rintro x w4 ⟨rfl, hb4⟩
    replace HM := hid1 (HM.out.keep hb4)
    replace HD := hid1 (HD.out.keep hb4)
    have B4 := bl_step BV hb4
    clear hb4 BV d0 d1
    obtain ⟨d0, d1⟩ := HD.out
    go_wp2_with fail
    refine (HQ.out _).mono ?_
    rintro x w5 ⟨rfl, hb5⟩
    replace HM := hid1 (HM.out.keep hb5)
    have B5 := bl_step B4 hb5
    clear hb5 B4 d0 d1 HD HP HQ
    obtain ⟨c0, c1, c2, c3, c4, c5, c6, c7⟩ := HM.out
    go_upto_region 12 with fail
    go_cut [76] (fun s wx => s = .bool false ∧ wx = w5)
    case first =>
      rcases Int.lt_trichotomy gn 0 with hs | hs | hs
      · have k1 : decide (0 < gn) = false := decide_eq_false (by omega)
        have k2 := HG.out.2.1 hs
        cases p <;> cases q
        · clear k2
          go_wp2
          go_meet
          exact ⟨rfl, rfl⟩
        · exact absurd (k2 rfl) (by decide)
        · clear k2
          go_wp2
          go_meet
          exact ⟨rfl, rfl⟩
        · clear k2
          go_wp2
          go_meet
          exact ⟨rfl, rfl⟩
      · subst hs
        have k2 := HG.out.2.2 rfl
        cases p <;> cases q
        · clear k2
          go_wp2
          go_meet
          exact ⟨rfl, rfl⟩
        · exact absurd k2 (by decide)
        · exact absurd k2 (by decide)
        · clear k2
          go_wp2
          go_meet
          exact ⟨rfl, rfl⟩
      · have k1 : decide (gn < 0) = false := decide_eq_false (by omega)
        have k3 : (gn == 0) = false := by simp; omega
        have k2 := HG.out.1 hs
        cases p <;> cases q
        · clear k2
          go_wp2
          go_meet
          exact ⟨rfl, rfl⟩
        · clear k2
          go_wp2
          go_meet
          exact ⟨rfl, rfl⟩
        · exact absurd (k2 rfl) (by decide)
        · clear k2
          go_wp2
          go_meet
          exact ⟨rfl, rfl⟩
    case rest =>
      obtain ⟨rfl, rfl⟩ := hcut
      clear HG
      have z5 := lt_of_cell c0
      go_wp2_with fail
      refine (HF2.out _).mono ?_
      rintro x w6 ⟨rfl, hb6⟩
      have B6 : Below w.heap.size w w6 := by repeat (first | (with_reducible exact Below.refl _ _) | (with_reducible refine bl_alloc ?_ _) | (with_reducible refine Below.drew ?_) | (with_reducible refine bl_drewN ?_ _) | (with_reducible refine bl_set ?_ (by omega) _) | (with_reducible refine bl_step ?_ (by assumption)))
      clear hb6 B5 c0 c1 c2 c3 c4 c5 c6 c7 HM z5
      go_wp2_with fail
      refine gen_calls (fun X => Hid (C2 X w6.heap.size u v) ∧ Below w.heap.size w X) ⟨hid1 ⟨by simp [go_sem], by simp [go_sem]⟩, by repeat (first | (with_reducible exact Below.refl _ _) | (with_reducible refine bl_alloc ?_ _) | (with_reducible refine Below.drew ?_) | (with_reducible refine bl_drewN ?_ _) | (with_reducible refine bl_set ?_ (by omega) _) | (with_reducible refine bl_step ?_ (by assumption)))⟩ ?_
      clear B6
      rintro Z ⟨HE, B6⟩
      refine (HP2.out _).mono ?_
      rintro x w7 ⟨rfl, hb7⟩
      replace HE := hid1 (HE.out.keep hb7)
      have B7 := bl_step B6 hb7
      clear hb7 B6
      obtain ⟨d0, d1⟩ := HE.out
      cases p <;> cases q
      all_goals go_wp2_with fail
      all_goals refine (HQ2.out _).mono ?_
      all_goals rintro x w8 ⟨rfl, hb8⟩
      all_goals go_wp2
      all_goals go_ret
      all_goals exact ⟨rfl, bl_step B7 hb8⟩
theorem foldRises_any (gn gd bn bd mn md sn sd a b : Int) (w : World) :
    Calls Try.prog 5 #[nm gn gd bn bd mn md sn sd, .int .i64 a, .int .i64 b] w fun x w' => x = .returned (.bool true) ∧ Below w.heap.size w w' := by
  have HF := hid1 (fold_any gn gd bn bd mn md sn sd)
  by_cases h : noE gn gd bn bd mn md sn sd = 0
  · have h2 := no_neg h
    have HF2 := hid1 (fold_any (-gn) gd bn bd (-mn) md sn sd)
    unfold foA at HF HF2
    rw [if_pos h, if_pos h, h] at HF
    rw [if_pos h2, if_pos h2, h2] at HF2
    have hP := fo_all h
    have hP2 := fo_all h2
    obtain ⟨hg, hb, hm, hs, s1⟩ := noE_ok h
    have key : ∀ X Y : Int, Sm X → Sm Y → X ≤ Y → Hid ((suN b < suN a ∧ X = suN b ∧ Y = suN a) ∨ (decide (suN b < suN a) = false ∧ X = suN a ∧ Y = suN b)) →
        Calls Try.prog 5 #[nm gn gd bn bd mn md sn sd, .int .i64 a, .int .i64 b] w fun x w' => x = .returned (.bool true) ∧ Below w.heap.size w w' := by
      intro X Y hX hY hXY HO
      have turn : ∀ x, Sm x → plT (foM (-gn) gd bn bd (-mn) md sn sd) (foT (-gn) gd bn bd (-mn) md sn sd) (-x) = plT (foM gn gd bn bd mn md sn sd) (foT gn gd bn bd mn md sn sd) x := by
        intro x hx
        rw [hP.2 x hx, hP2.2 (-x) (by unfold Sm at hx ⊢; omega), nv_turn]
      have HP2 := hid1 (plus_any (foM (-gn) gd bn bd (-mn) md sn sd) (foT (-gn) gd bn bd (-mn) md sn sd) (-X))
      have HQ2 := hid1 (plus_any (foM (-gn) gd bn bd (-mn) md sn sd) (foT (-gn) gd bn bd (-mn) md sn sd) (-Y))
      rw [turn X hX] at HP2
      rw [turn Y hY] at HQ2
      exact foldRises_ok gn gd bn bd mn md sn sd _ _ a b _ _ X Y _ _ _ _ hg.2.2.1 hg.2.2.2 hm.2.2.1 hm.2.2.2 hX.1 hX.2 hY.1 hY.2 HF HF2 (hid1 (sum_any a)) (hid1 (sum_any b)) HO (hid1 (plus_any _ _ X)) (hid1 (plus_any _ _ Y)) HP2 HQ2 (hid1 (rises h hP hX hY hXY)) w
    by_cases o1 : suN b < suN a
    · exact key _ _ (su_sm b) (su_sm a) (by omega) (hid1 (.inl ⟨o1, rfl, rfl⟩))
    · exact key _ _ (su_sm a) (su_sm b) (by omega) (hid1 (.inr ⟨decide_eq_false o1, rfl, rfl⟩))
  · unfold foA at HF
    rw [if_neg h, if_neg h] at HF
    exact foldRises_no gn gd bn bd mn md sn sd a b _ (bne_iff_ne.2 h) HF w
end Go.Proofs.Ytffhbfdbahdhoaa
