import Derived.Test.YtffhbfdbahdhoabHR1
import Derived.Test.YtffhbfdbahdhoabQCFoldFolds
import Derived.Test.YtffhbfdbahdhoabQAFoldFolds
/- THE DOCUMENT'S Fold. -/
namespace Go.Proofs.Ytffhbfdbahdhoab
open Go.RowKit Go.Shelf Wd
attribute [local go_sem ↓] Go.wp_at_zero Go.wp_at_succ

set_option maxRecDepth 100000 in
theorem asked_core (gn gd bn bd mn md sn sd x e : Int) (p : Bool) (H1 : Hid (∀ w : World, Calls Try.prog 30 #[nm gn gd bn bd mn md sn sd, .int .i64 x] w fun y w' => y = .returned (.tuple #[.bool p, .int .i64 e]) ∧ Below w.heap.size w w')) (w : World) :
    Calls Try.prog 18 #[nm gn gd bn bd mn md sn sd, .int .i64 x] w fun y w' => y = .returned (.bool p) ∧ Below w.heap.size w w' := by
  go_enter Try.func18, Try.ntmps18
  go_wp2_with fail
  refine (H1.out _).mono ?_
  rintro y w1 ⟨rfl, hb1⟩
  go_wp2
  go_ret
  exact ⟨rfl, by repeat (first | (with_reducible exact Below.refl _ _) | (with_reducible refine bl_alloc ?_ _) | (with_reducible refine Below.drew ?_) | (with_reducible refine bl_drewN ?_ _) | (with_reducible refine bl_set ?_ (by omega) _) | (with_reducible refine bl_step ?_ (by assumption)))⟩
theorem asked_any {gn gd bn bd mn md sn sd x : Int} (h : noE gn gd bn bd mn md sn sd = 0) (hx : Sm x) (w : World) :
    Calls Try.prog 18 #[nm gn gd bn bd mn md sn sd, .int .i64 x] w fun y w' => y = .returned (.bool (decide (0 ≤ nv gn gd bn bd mn md sn sd x))) ∧ Below w.heap.size w w' := by
  have H1 := hid1 (r4plus_any gn gd bn bd mn md sn sd x)
  have e1 : plV gn gd bn bd mn md sn sd x = decide (0 ≤ nv gn gd bn bd mn md sn sd x) := by unfold plV; rw [decide_eq_true h, decide_eq_true hx]; rfl
  rw [e1] at H1
  exact asked_core gn gd bn bd mn md sn sd x _ _ H1 w
/-- What a threshold says at a place where it turns about tells which it is. -/
theorem turn_le {m t a : Int} (h1 : plT m t a = true) (h2 : plT m t (a + 1) = false) : m = 2 ∧ t = a := by
  unfold plT at h1 h2
  have h1' := of_decide_eq_true h1
  have h2' := of_decide_eq_false h2
  omega
theorem turn_ge {m t a : Int} (h1 : plT m t a = false) (h2 : plT m t (a + 1) = true) : m = 1 ∧ t = a + 1 := by
  unfold plT at h1 h2
  have h1' := of_decide_eq_false h1
  have h2' := of_decide_eq_true h2
  omega
theorem all_yes {m t : Int} (h : okT m t) (h1 : plT m t (-2147483647) = true) (h2 : plT m t 2147483647 = true) : m = 3 ∧ t = 0 := by
  unfold okT at h
  unfold plT at h1 h2
  have h1' := of_decide_eq_true h1
  have h2' := of_decide_eq_true h2
  omega
theorem all_no {m t : Int} (h : okT m t) (h1 : plT m t (-2147483647) = false) (h2 : plT m t 2147483647 = false) : m = 4 ∧ t = 0 := by
  unfold okT at h
  unfold plT at h1 h2
  have h1' := of_decide_eq_false h1
  have h2' := of_decide_eq_false h2
  omega
theorem half_bd {x y : Int} (h : 1 < y - x) : 1 ≤ (y - x).tdiv 2 ∧ (y - x).tdiv 2 < y - x := by
  rw [Int.tdiv_eq_ediv_of_nonneg (by omega)]
  omega
set_option maxRecDepth 100000 in
theorem rfold_no (gn gd bn bd mn md sn sd e : Int) (h : (e != 0) = true) (HN : Hid (∀ w : World, Calls Try.prog 17 #[nm gn gd bn bd mn md sn sd] w fun x w' => x = .returned (.int .i64 e) ∧ Below w.heap.size w w')) (w : World) :
    Calls Try.prog 7 #[nm gn gd bn bd mn md sn sd] w fun x w' => x = .returned (.tuple #[th 0 0, .int .i64 e]) ∧ Below w.heap.size w w' := by
  go_enter Try.func7, Try.ntmps7
  go_wp2_with fail
  refine (HN.out _).mono ?_
  rintro x w1 ⟨rfl, hb1⟩
  obtain ⟨y0, y1, y2, y3⟩ : Wz w1 (w.heap.size + 1) := Wz.keep ⟨by simp [go_sem], by simp [go_sem], by simp [go_sem], by simp [go_sem]⟩ hb1
  have z := lt_of_cell y0
  go_wp2
  simp [bodyPost, results, Try.results7, go_sem, *]
  repeat (first | (with_reducible exact Below.refl _ _) | (with_reducible refine bl_alloc ?_ _) | (with_reducible refine Below.drew ?_) | (with_reducible refine bl_drewN ?_ _) | (with_reducible refine bl_set ?_ (by omega) _) | (with_reducible refine bl_step ?_ (by assumption)))
set_option maxHeartbeats 1600000 in
set_option maxRecDepth 100000 in
theorem rfold_ok (gn gd bn bd mn md sn sd M T : Int) (f : Int → Bool) (HN : Hid (∀ w : World, Calls Try.prog 17 #[nm gn gd bn bd mn md sn sd] w fun x w' => x = .returned (.int .i64 0) ∧ Below w.heap.size w w'))
    (HQ : Hid (∀ x, Sm x → ∀ w : World, Calls Try.prog 18 #[nm gn gd bn bd mn md sn sd, .int .i64 x] w fun y w' => y = .returned (.bool (f x)) ∧ Below w.heap.size w w'))
    (H1 : Hid (∀ a, Sm a → Sm (a + 1) → f a = true → f (a + 1) = false → M = 2 ∧ T = a)) (H2 : Hid (∀ a, Sm a → Sm (a + 1) → f a = false → f (a + 1) = true → M = 1 ∧ T = a + 1))
    (H3 : Hid (f (-2147483647) = true → f 2147483647 = true → M = 3 ∧ T = 0)) (H4 : Hid (f (-2147483647) = false → f 2147483647 = false → M = 4 ∧ T = 0)) (w : World) :
    Calls Try.prog 7 #[nm gn gd bn bd mn md sn sd] w fun x w' => x = .returned (.tuple #[th M T, .int .i64 0]) ∧ Below w.heap.size w w' := by
  go_enter Try.func7, Try.ntmps7
  go_wp2_with fail
  refine (HN.out _).mono ?_
  rintro x w1 ⟨rfl, hb1⟩
  have HY : Hid (Wz w1 (w.heap.size + 1)) := hid1 (Wz.keep ⟨by simp [go_sem], by simp [go_sem], by simp [go_sem], by simp [go_sem]⟩ hb1)
  have HM : Hid (Nm w1 w.heap.size gn gd bn bd mn md sn sd) := hid1 (Nm.keep ⟨by simp [go_sem], by simp [go_sem], by simp [go_sem], by simp [go_sem], by simp [go_sem], by simp [go_sem], by simp [go_sem], by simp [go_sem]⟩ hb1)
  have HB : Hid (Below w.heap.size w w1) := hid1 (by repeat (first | (with_reducible exact Below.refl _ _) | (with_reducible refine bl_alloc ?_ _) | (with_reducible refine Below.drew ?_) | (with_reducible refine bl_drewN ?_ _) | (with_reducible refine bl_set ?_ (by omega) _) | (with_reducible refine bl_step ?_ (by assumption))))
  clear hb1
  obtain ⟨c0, c1, c2, c3, c4, c5, c6, c7⟩ := HM.out
  have HL := hid1 (HQ.out (-2147483647) ⟨by omega, by omega⟩)
  have HH := hid1 (HQ.out 2147483647 ⟨by omega, by omega⟩)
  obtain ⟨p, hp⟩ : ∃ p, f (-2147483647) = p := ⟨_, rfl⟩
  obtain ⟨q, hq⟩ : ∃ q, f 2147483647 = q := ⟨_, rfl⟩
  rw [hp] at HL
  rw [hq] at HH
  have HE := hid1 (And.intro hp hq)
  clear hp hq
  go_upto_region 5 with fail
  go_cut [7, 8] (fun s t wx => s = .bool p ∧ t = .bool q ∧ Hid (Below w1.heap.size w1 wx))
  case first =>
    go_region_held3 (fun X => X.cell? ⟨w.heap.size, 0, none⟩ = some (.int .i64 gn) ∧ X.cell? ⟨w.heap.size, 1, none⟩ = some (.int .i64 gd) ∧ X.cell? ⟨w.heap.size, 2, none⟩ = some (.int .i64 bn) ∧ X.cell? ⟨w.heap.size, 3, none⟩ = some (.int .i64 bd) ∧ X.cell? ⟨w.heap.size, 4, none⟩ = some (.int .i64 mn) ∧ X.cell? ⟨w.heap.size, 5, none⟩ = some (.int .i64 md) ∧ X.cell? ⟨w.heap.size, 6, none⟩ = some (.int .i64 sn) ∧ X.cell? ⟨w.heap.size, 7, none⟩ = some (.int .i64 sd)) (((try dsimp only); refine (fun hh => ⟨keepc (W := w1) hh c0, keepc (W := w1) hh c1, keepc (W := w1) hh c2, keepc (W := w1) hh c3, keepc (W := w1) hh c4, keepc (W := w1) hh c5, keepc (W := w1) hh c6, keepc (W := w1) hh c7⟩) ?_; repeat (first | (with_reducible exact Below.refl _ _) | (with_reducible refine bl_alloc ?_ _) | (with_reducible refine Below.drew ?_) | (with_reducible refine bl_drewN ?_ _) | (with_reducible refine bl_set ?_ (by first | omega | (simp; done) | (simp; omega)) _) | (with_reducible refine bl_step ?_ (by assumption)))))
      (first
        | (go_at_call 18; (with_reducible refine (HL.out _).mono ?_); rintro e x1 ⟨rfl, hx1⟩)
        | (go_at_call 18; (with_reducible refine (HH.out _).mono ?_); rintro e x2 ⟨rfl, hx2⟩))
    all_goals go_wp2_with fail
    all_goals go_meet
    all_goals exact ⟨rfl, rfl, hid1 (by repeat (first | (with_reducible exact Below.refl _ _) | (with_reducible refine bl_alloc ?_ _) | (with_reducible refine Below.drew ?_) | (with_reducible refine bl_drewN ?_ _) | (with_reducible refine bl_set ?_ (by first | omega | (simp; done) | (simp; omega)) _) | (with_reducible refine bl_step ?_ (by assumption))))⟩
  case rest =>
    obtain ⟨rfl, rfl, HX⟩ := hcut
    have B := bl_step HB.out HX.out
    replace HM := hid1 (HM.out.keep HX.out)
    replace HY := hid1 (HY.out.keep HX.out)
    clear HX HB c0 c1 c2 c3 c4 c5 c6 c7 HL HH HN
    cases p <;> cases q
    · obtain ⟨rfl, rfl⟩ := H4.out HE.out.1 HE.out.2
      obtain ⟨y0, y1, y2, y3⟩ := HY.out
      have z := lt_of_cell y0
      go_wp2
      simp [bodyPost, results, Try.results7, go_sem, *]
      repeat (first | (with_reducible exact Below.refl _ _) | (with_reducible refine bl_alloc ?_ _) | (with_reducible refine Below.drew ?_) | (with_reducible refine bl_drewN ?_ _) | (with_reducible refine bl_set ?_ (by omega) _) | (with_reducible refine bl_step ?_ (by assumption)))
    · clear H3 H4
      have Y0 := hid1 HE.out.1
      have Y1 := hid1 HE.out.2
      clear HE
      go_wp2_with fail
      go_loopw [5, 6] (fun a b wr => ∃ x y : Int, a = .int .i64 x ∧ b = .int .i64 y ∧ x < y ∧ -2147483647 ≤ x ∧ y ≤ 2147483647 ∧ Hid (f x = false) ∧ Hid (f y = true) ∧ Hid (Nm wr w.heap.size gn gd bn bd mn md sn sd) ∧ Hid (Wz wr (w.heap.size + 1)) ∧ Below w.heap.size w wr) (fun a b _ => (intOf b - intOf a).toNat)
      case atStart => exact ⟨-2147483647, 2147483647, rfl, rfl, by omega, by omega, by omega, Y0, Y1, HM, HY, B⟩
      case round =>
        clear HM HY B Y0 Y1
        obtain ⟨x, y, rfl, rfl, hxy, x1, y1, F0, F1, HM, HY, B⟩ := hrel
        by_cases hd : 1 < y - x
        · obtain ⟨d1, d2⟩ := half_bd hd
          obtain ⟨d, ed⟩ : ∃ d, (y - x).tdiv 2 = d := ⟨_, rfl⟩
          rw [ed] at d1 d2
          obtain ⟨c0, c1, c2, c3, c4, c5, c6, c7⟩ := HM.out
          have HA := hid1 (HQ.out (x + d) ⟨by omega, by omega⟩)
          obtain ⟨r, hr⟩ : ∃ r, f (x + d) = r := ⟨_, rfl⟩
          rw [hr] at HA
          have FR := hid1 hr
          clear hr
          go_wp2_with fail
          refine (HA.out _).mono ?_
          rintro v w2 ⟨rfl, hb2⟩
          replace HM := hid1 (HM.out.keep hb2)
          replace HY := hid1 (HY.out.keep hb2)
          replace B := bl_step B hb2
          clear hb2 c0 c1 c2 c3 c4 c5 c6 c7 HA
          cases r
          · go_wp2_with fail
            exact ⟨⟨x + d, y, by first | rfl | (congr 1; done), by first | rfl | (congr 1; done), by omega, by omega, by omega, FR, F1, HM, HY, B⟩, by simp [intOf]; omega⟩
          · go_wp2_with fail
            exact ⟨⟨x, x + d, by first | rfl | (congr 1; done), by first | rfl | (congr 1; done), by omega, by omega, by omega, F0, FR, HM, HY, B⟩, by simp [intOf]; omega⟩
        · have hd1 : y - x ≤ 1 := by omega
          clear hd
          have e1 : y = x + 1 := by omega
          have F2 := F1.out
          rw [e1] at F2
          obtain ⟨g1, g2⟩ := H2.out x ⟨by omega, by omega⟩ ⟨by omega, by omega⟩ F0.out F2
          have g3 : T = y := by omega
          clear g2 e1 F2
          subst g1 g3
          obtain ⟨y0, y1', y2, y3⟩ := HY.out
          have z := lt_of_cell y0
          go_wp2
          simp [bodyPost, results, Try.results7, go_sem, *]
          repeat (first | (with_reducible exact Below.refl _ _) | (with_reducible refine bl_alloc ?_ _) | (with_reducible refine Below.drew ?_) | (with_reducible refine bl_drewN ?_ _) | (with_reducible refine bl_set ?_ (by omega) _) | (with_reducible refine bl_step ?_ (by assumption)))
    · clear H3 H4
      have Y0 := hid1 HE.out.1
      have Y1 := hid1 HE.out.2
      clear HE
      go_wp2_with fail
      go_loopw [5, 6] (fun a b wr => ∃ x y : Int, a = .int .i64 x ∧ b = .int .i64 y ∧ x < y ∧ -2147483647 ≤ x ∧ y ≤ 2147483647 ∧ Hid (f x = true) ∧ Hid (f y = false) ∧ Hid (Nm wr w.heap.size gn gd bn bd mn md sn sd) ∧ Hid (Wz wr (w.heap.size + 1)) ∧ Below w.heap.size w wr) (fun a b _ => (intOf b - intOf a).toNat)
      case atStart => exact ⟨-2147483647, 2147483647, rfl, rfl, by omega, by omega, by omega, Y0, Y1, HM, HY, B⟩
      case round =>
        clear HM HY B Y0 Y1
        obtain ⟨x, y, rfl, rfl, hxy, x1, y1, F0, F1, HM, HY, B⟩ := hrel
        by_cases hd : 1 < y - x
        · obtain ⟨d1, d2⟩ := half_bd hd
          obtain ⟨d, ed⟩ : ∃ d, (y - x).tdiv 2 = d := ⟨_, rfl⟩
          rw [ed] at d1 d2
          obtain ⟨c0, c1, c2, c3, c4, c5, c6, c7⟩ := HM.out
          have HA := hid1 (HQ.out (x + d) ⟨by omega, by omega⟩)
          obtain ⟨r, hr⟩ : ∃ r, f (x + d) = r := ⟨_, rfl⟩
          rw [hr] at HA
          have FR := hid1 hr
          clear hr
          go_wp2_with fail
          refine (HA.out _).mono ?_
          rintro v w2 ⟨rfl, hb2⟩
          replace HM := hid1 (HM.out.keep hb2)
          replace HY := hid1 (HY.out.keep hb2)
          replace B := bl_step B hb2
          clear hb2 c0 c1 c2 c3 c4 c5 c6 c7 HA
          cases r
          · go_wp2_with fail
            exact ⟨⟨x, x + d, by first | rfl | (congr 1; done), by first | rfl | (congr 1; done), by omega, by omega, by omega, F0, FR, HM, HY, B⟩, by simp [intOf]; omega⟩
          · go_wp2_with fail
            exact ⟨⟨x + d, y, by first | rfl | (congr 1; done), by first | rfl | (congr 1; done), by omega, by omega, by omega, FR, F1, HM, HY, B⟩, by simp [intOf]; omega⟩
        · have hd1 : y - x ≤ 1 := by omega
          clear hd
          have e1 : y = x + 1 := by omega
          have F2 := F1.out
          rw [e1] at F2
          obtain ⟨g1, g2⟩ := H1.out x ⟨by omega, by omega⟩ ⟨by omega, by omega⟩ F0.out F2
          have g3 : T = x := by omega
          clear g2 e1 F2
          subst g1 g3
          obtain ⟨y0, y1', y2, y3⟩ := HY.out
          have z := lt_of_cell y0
          go_wp2
          simp [bodyPost, results, Try.results7, go_sem, *]
          repeat (first | (with_reducible exact Below.refl _ _) | (with_reducible refine bl_alloc ?_ _) | (with_reducible refine Below.drew ?_) | (with_reducible refine bl_drewN ?_ _) | (with_reducible refine bl_set ?_ (by omega) _) | (with_reducible refine bl_step ?_ (by assumption)))
    · obtain ⟨rfl, rfl⟩ := H3.out HE.out.1 HE.out.2
      obtain ⟨y0, y1, y2, y3⟩ := HY.out
      have z := lt_of_cell y0
      go_wp2
      simp [bodyPost, results, Try.results7, go_sem, *]
      repeat (first | (with_reducible exact Below.refl _ _) | (with_reducible refine bl_alloc ?_ _) | (with_reducible refine Below.drew ?_) | (with_reducible refine bl_drewN ?_ _) | (with_reducible refine bl_set ?_ (by omega) _) | (with_reducible refine bl_step ?_ (by assumption)))
theorem rfold_any (gn gd bn bd mn md sn sd : Int) (w : World) :
    Calls Try.prog 7 #[nm gn gd bn bd mn md sn sd] w fun x w' => x = .returned (.tuple #[th (foA (noE gn gd bn bd mn md sn sd) (foM gn gd bn bd mn md sn sd)) (foA (noE gn gd bn bd mn md sn sd) (foT gn gd bn bd mn md sn sd)), .int .i64 (noE gn gd bn bd mn md sn sd)]) ∧ Below w.heap.size w w' := by
  have HN := hid1 (r4norm_any gn gd bn bd mn md sn sd)
  unfold foA
  by_cases h : noE gn gd bn bd mn md sn sd = 0
  · rw [if_pos h, if_pos h, h]
    rw [h] at HN
    have hP := fo_all h
    have e : ∀ x, Sm x → decide (0 ≤ nv gn gd bn bd mn md sn sd x) = plT (foM gn gd bn bd mn md sn sd) (foT gn gd bn bd mn md sn sd) x := fun x hx => (hP.2 x hx).symm
    refine rfold_ok gn gd bn bd mn md sn sd _ _ (fun x => decide (0 ≤ nv gn gd bn bd mn md sn sd x)) HN (hid1 fun x hx w => asked_any h hx w) (hid1 ?_) (hid1 ?_) (hid1 ?_) (hid1 ?_) w
    · intro a h1 h2 h3 h4
      exact turn_le ((e a h1).symm.trans h3) ((e _ h2).symm.trans h4)
    · intro a h1 h2 h3 h4
      exact turn_ge ((e a h1).symm.trans h3) ((e _ h2).symm.trans h4)
    · intro h3 h4
      exact all_yes hP.1 ((e _ ⟨by omega, by omega⟩).symm.trans h3) ((e _ ⟨by omega, by omega⟩).symm.trans h4)
    · intro h3 h4
      exact all_no hP.1 ((e _ ⟨by omega, by omega⟩).symm.trans h3) ((e _ ⟨by omega, by omega⟩).symm.trans h4)
  · rw [if_neg h, if_neg h]
    exact rfold_no gn gd bn bd mn md sn sd _ (bne_iff_ne.2 h) HN w
end Go.Proofs.Ytffhbfdbahdhoab
/- FoldFolds, WALKED. -/
namespace Go.Proofs.Ytffhbfdbahdhoab
open Go.RowKit Go.Shelf Wd
attribute [local go_sem ↓] Go.wp_at_zero Go.wp_at_succ

theorem keepaF {W : World} {b o : Nat} {v : Value} (h : W.cell? ⟨b, o, none⟩ = some v) (ob : Obj) : (W.alloc ob).cell? ⟨b, o, none⟩ = some v := by
  rw [World.cell?_alloc_lt _ _ _ (lt_of_cell h)]; exact h
theorem N8.alloc {w : World} {b o : Nat} {gn gd bn bd mn md sn sd : Int} (h : N8 w b o gn gd bn bd mn md sn sd) (ob : Obj) : N8 (w.alloc ob) b o gn gd bn bd mn md sn sd := by
  obtain ⟨a, c, d, e, f, g, i, j⟩ := h
  exact ⟨keepaF a _, keepaF c _, keepaF d _, keepaF e _, keepaF f _, keepaF g _, keepaF i _, keepaF j _⟩
set_option maxHeartbeats 1600000 in
set_option maxRecDepth 100000 in
theorem foldFolds_any (ao : Option Addr) (m0 cm : Nat) (hm : m0 ≤ 9223372036854775807) (w : World) (L1 : Ln8 w ao m0) :
    Calls Try.prog 3 #[.slice ao m0 cm] w fun e w' => e = .returned (.bool true) ∧ Below w.heap.size w w' := by
  have H1 := hid1 L1
  clear L1
  go_enter Try.func3, Try.ntmps3
  go_wp2_with fail
  refine (obegun_any _).mono ?_
  rintro e w1 ⟨rfl, hb1⟩
  go_wp2_with fail
  go_loopw [4] (fun i wr => ∃ k : Nat, k ≤ m0 ∧ i = .int .i64 k ∧ Below w.heap.size w wr) (fun i _ => m0 - (intOf i).toNat)
  case atStart => exact ⟨0, Nat.zero_le _, rfl, hb1⟩
  case round =>
    clear hb1
    obtain ⟨i, hi, rfl, hnx⟩ := hrel
    have ii0 : (0 : Int) ≤ (i : Int) := by omega
    by_cases hli : i < m0
    · have ii : (i : Int) < (m0 : Int) := by omega
      obtain ⟨g, o, gn, gd, bn, bd, mn, md, sn, sd, rfl, HN0⟩ := (H1.out.keep hnx) i hli
      have HN := hid1 HN0
      clear HN0
      have HF := hid1 (fold_any gn gd bn bd mn md sn sd)
      have HG := hid1 (rfold_any gn gd bn bd mn md sn sd)
      generalize foA (noE gn gd bn bd mn md sn sd) (foM gn gd bn bd mn md sn sd) = A at *
      generalize foA (noE gn gd bn bd mn md sn sd) (foT gn gd bn bd mn md sn sd) = B at *
      generalize noE gn gd bn bd mn md sn sd = E at *
      obtain ⟨c0, c1, c2, c3, c4, c5, c6, c7⟩ := HN.out
      go_wp2_with fail
      refine (HF.out _).mono ?_
      rintro e x1 ⟨rfl, hx⟩
      replace HN := hid1 (HN.out.keep hx)
      replace hnx := bl_step hnx hx
      clear hx c0 c1 c2 c3 c4 c5 c6 c7
      obtain ⟨c0, c1, c2, c3, c4, c5, c6, c7⟩ := HN.out
      have zc := lt_of_cell c0
      go_wp2_with fail
      refine gen_calls (fun X => Hid (C2 X x1.heap.size A B) ∧ Below w.heap.size w X) ⟨hid1 (c2_new rfl), bl_alloc hnx _⟩ ?_
      clear hnx c0 c1 c2 c3 c4 c5 c6 c7 HN zc
      rintro X ⟨HC, hnx⟩
      refine (HG.out _).mono ?_
      rintro e x2 ⟨rfl, hx⟩
      replace HC := hid1 (HC.out.keep hx)
      replace hnx := bl_step hnx hx
      clear hx HF HG
      generalize x1.heap.size = G at *
      obtain ⟨d0, d1⟩ := HC.out
      have zd := lt_of_cell d0
      go_wp2_with fail
      exact ⟨⟨i + 1, by omega, by go_num, by repeat (first | (with_reducible exact Below.refl _ _) | (with_reducible refine bl_alloc ?_ _) | (with_reducible refine Below.drew ?_) | (with_reducible refine bl_drewN ?_ _) | (with_reducible refine bl_set ?_ (by omega) _) | (with_reducible refine bl_step ?_ (by assumption)))⟩, by simp [intOf]; omega⟩
    · go_wp2_with fail
      go_ret
      exact ⟨rfl, hnx⟩
end Go.Proofs.Ytffhbfdbahdhoab
namespace Go.Proofs.Ytffhbfdbahdhoab
open Go.ChangeShapes Go.WideShapes Go.ChangeAt Go.RowKit Wd

set_option maxRecDepth 100000 in
theorem foldFolds_lifted (os : Os) (started : os.Started) (H : Type) (enc : TypeId × Value → H) :
    ReturnsInHanded {} Try.checked os 3 .any (Rows.foldFoldsSpec.pre6 enc Try.prog Try.f3 Rows.foldFoldsRow.domain false) (Rows.foldFoldsSpec.post enc Try.prog Try.f3 false true false false) := by
  refine returnsInHanded_of_change_sized (C := Try.checked) own started (by kernel_rfl) Try.func3
    (ChangeSpec.witness6 (enc := enc) (C := Try.checked) false ⟨#[], #[.slice none 0 0], []⟩ 8 (by kernel_rfl) (by kernel_rfl) (by kernel_rfl) (by kernel_rfl)) ?_
  intro W base args ds gs before hval0 hW _ _ _
  have hval : ∀ (j : Nat) t v, Try.f3.params[j]? = some t → args[j]? = some v → Value.okWide Try.prog W .any base t v := hval0
  have hW' := hW
  obtain ⟨p, q, hA0, hV, rfl, hfz, hnd⟩ := hW
  have hA : DataW.TrodAll enc Try.prog W 0 (fun _ => true) true Try.f3.params.toList args.toList ds p := hA0
  rw [Try.params3] at hA hval
  obtain ⟨v0, vs0, d0, ds0, p0, q0, hargs, rfl, rfl, h0, r0⟩ := trodAll_cons hA
  obtain ⟨rfl, rfl, rfl⟩ := trodAll_nil r0
  obtain rfl : args = #[v0] := by cases args; simp_all
  obtain ⟨rfl, rfl⟩ := trodVars_none hV
  have lt0 : ∀ x ∈ p0, x.block < W.heap.size := by obtain ⟨m, hm⟩ := h0; exact DataW.trod_lt m _ _ _ hm
  have k0 := h0
  obtain ⟨ao0, m0, c0, rfl, hm0, f0⟩ := open_norms (hval 0 22 v0 rfl rfl) h0
  clear hA0 hval0
  refine (foldFolds_any ao0 m0 c0 hm0 W f0).mono fun e W' ⟨he, bel⟩ => ?_
  subst he
  exact ⟨_, rfl, _, _, _, [], _, [], hW', trodAll_mk1 (shut_bool Try.underlying4 _), (trodAll_cons_mk (Below.trod laidOut (by kernel_rfl) (of_decide_eq_true (by kernel_rfl)) k0 bel lt0) trodAll_mk0), rfl, bel.frame _, fun h => by cases h⟩

theorem foldFolds_holds : Rows.FoldFoldsSaid :=
  OpenClaim.holds_of_wide 3 Try.f3 rfl rfl rfl rfl rfl rfl rfl ⟨rfl, rfl, rfl, rfl, rfl⟩ rfl rfl rfl rfl rfl (by kernel_rfl) Try.func3 (by kernel_rfl)
    (of_decide_eq_true (by kernel_rfl)) (by unfold Func.isWrapper; first | (rw [if_pos (by decide +kernel)]; kernel_rfl) | (rw [if_neg (by decide +kernel)]; exact ⟨rfl, rfl⟩))
    (fun os started H enc _ => foldFolds_lifted os started H enc)
#print axioms foldFolds_holds
end Go.Proofs.Ytffhbfdbahdhoab
