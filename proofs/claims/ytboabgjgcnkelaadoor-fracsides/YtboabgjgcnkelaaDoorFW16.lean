/- FRACSIDES, WALKED. -/
import Derived.Test.YtboabgjgcnkelaaDoorFW15
namespace Go.Proofs.YtboabgjgcnkelaaDoor
open Go.RowKit Go.Shelf
attribute [local go_sem ↓] Go.wp_at_zero Go.wp_at_succ

theorem ny_set0 {W : World} {g : Nat} {gn gd bn bd mn md sn sd v : Int} (h : Ny W g gn gd bn bd mn md sn sd) : Ny (W.setCell ⟨g, 0, none⟩ (.int .i64 v)) g v gd bn bd mn md sn sd := by
  obtain ⟨⟨n0, n1, n2, n3, n4, n5, n6, n7⟩, nf⟩ := h
  have z := lt_of_cell n0
  exact ⟨⟨by simp [go_sem, *], by simp [go_sem, *], by simp [go_sem, *], by simp [go_sem, *], by simp [go_sem, *], by simp [go_sem, *], by simp [go_sem, *], by simp [go_sem, *]⟩, fun o => by simp [go_sem, *]⟩
theorem ny_set4 {W : World} {g : Nat} {gn gd bn bd mn md sn sd v : Int} (h : Ny W g gn gd bn bd mn md sn sd) : Ny (W.setCell ⟨g, 4, none⟩ (.int .i64 v)) g gn gd bn bd v md sn sd := by
  obtain ⟨⟨n0, n1, n2, n3, n4, n5, n6, n7⟩, nf⟩ := h
  have z := lt_of_cell n0
  exact ⟨⟨by simp [go_sem, *], by simp [go_sem, *], by simp [go_sem, *], by simp [go_sem, *], by simp [go_sem, *], by simp [go_sem, *], by simp [go_sem, *], by simp [go_sem, *]⟩, fun o => by simp [go_sem, *]⟩
theorem ny_set5 {W : World} {g : Nat} {gn gd bn bd mn md sn sd v : Int} (h : Ny W g gn gd bn bd mn md sn sd) : Ny (W.setCell ⟨g, 5, none⟩ (.int .i64 v)) g gn gd bn bd mn v sn sd := by
  obtain ⟨⟨n0, n1, n2, n3, n4, n5, n6, n7⟩, nf⟩ := h
  have z := lt_of_cell n0
  exact ⟨⟨by simp [go_sem, *], by simp [go_sem, *], by simp [go_sem, *], by simp [go_sem, *], by simp [go_sem, *], by simp [go_sem, *], by simp [go_sem, *], by simp [go_sem, *]⟩, fun o => by simp [go_sem, *]⟩
theorem Ny.other {W : World} {g k o : Nat} {gn gd bn bd mn md sn sd : Int} {u : Value} (h : Ny W g gn gd bn bd mn md sn sd) (hk : ¬ k = g) : Ny (W.setCell ⟨k, o, none⟩ u) g gn gd bn bd mn md sn sd := by
  obtain ⟨⟨n0, n1, n2, n3, n4, n5, n6, n7⟩, nf⟩ := h
  have z := lt_of_cell n0
  have hk2 : ¬ g = k := fun e => hk e.symm
  exact ⟨⟨by simp [go_sem, *], by simp [go_sem, *], by simp [go_sem, *], by simp [go_sem, *], by simp [go_sem, *], by simp [go_sem, *], by simp [go_sem, *], by simp [go_sem, *]⟩, fun o => by simp [go_sem, *]⟩
set_option maxHeartbeats 3200000 in
set_option maxRecDepth 100000 in
theorem fsides_core (gn gd bn bd mn md sn sd x y a b c d e f s h al be lo hi : Int) (p q : Bool)
    (HT : Hid (∀ w : World, Calls Tryd.prog 16 #[nm gn gd bn bd mn md sn sd] w fun e' w' => e' = .returned (nm a b c d e f s h) ∧ Below w.heap.size w w'))
    (HX : Hid (∀ w : World, Calls Tryd.prog 17 #[.int .i64 x] w fun e w' => e = .returned (.int .i64 al) ∧ w' = w))
    (HY : Hid (∀ w : World, Calls Tryd.prog 17 #[.int .i64 y] w fun e w' => e = .returned (.int .i64 be) ∧ w' = w))
    (PA : Hid (∀ w : World, Calls Tryd.prog 18 #[nm a b c d e f s h, .int .i64 lo] w fun e w' => e = .returned (.tuple #[.bool p, .bool true]) ∧ Below w.heap.size w w'))
    (PB : Hid (∀ w : World, Calls Tryd.prog 18 #[nm a b c d e f s h, .int .i64 hi] w fun e w' => e = .returned (.tuple #[.bool q, .bool true]) ∧ Below w.heap.size w w'))
    (PC : Hid (∀ w : World, Calls Tryd.prog 18 #[nm (-a) b c d (-e) f s h, .int .i64 (-lo)] w fun e w' => e = .returned (.tuple #[.bool p, .bool true]) ∧ Below w.heap.size w w'))
    (PD : Hid (∀ w : World, Calls Tryd.prog 18 #[nm a b c d lo 1 s h, .int .i64 lo] w fun e w' => e = .returned (.tuple #[.bool (decide (0 ≤ c)), .bool true]) ∧ Below w.heap.size w w'))
    (hO : Hid ((be < al ∧ lo = be ∧ hi = al) ∨ (¬ be < al ∧ lo = al ∧ hi = be)))
    (a1 : -2147483647 ≤ a) (a2 : a ≤ 2147483647) (e1 : -2147483647 ≤ e) (e2 : e ≤ 2147483647) (l1 : -2147483647 ≤ lo) (l2 : lo ≤ 2147483647)
    (F : Hid ((0 < a ∧ (p = true → q = true)) ∨ (a < 0 ∧ (q = true → p = true)) ∨ (a = 0 ∧ p = decide (0 ≤ c) ∧ q = decide (0 ≤ c))))
    (w : World) (L : LaidP w) :
    Calls Tryd.prog 6 #[nm gn gd bn bd mn md sn sd, .int .i64 x, .int .i64 y] w fun e w' => e = .returned (.bool true) ∧ Below w.heap.size w w' := by
  have HL := hid1 L
  clear L
  go_enter Tryd.func6, Tryd.ntmps6
  go_wp2_with fail
  refine gen_calls (fun W' => Below w.heap.size w W' ∧ Hid (Nm W' w.heap.size gn gd bn bd mn md sn sd)) ⟨by repeat (first | (with_reducible exact Below.refl _ _) | (with_reducible refine bl_alloc ?_ _) | (with_reducible refine Below.drew ?_) | (with_reducible refine bl_drewN ?_ _) | (with_reducible refine bl_set ?_ (by omega) _) | (with_reducible refine bl_step ?_ (by assumption))), hid1 (ny_new rfl).1⟩ ?_
  rintro W ⟨B0, HM⟩
  refine (fbegun_any _ (HL.out.on B0)).mono ?_
  rintro e' w1 ⟨rfl, hb1⟩
  replace HM := hid1 (HM.out.keep hb1)
  have B1 : Below w.heap.size w w1 := by repeat (first | (with_reducible exact Below.refl _ _) | (with_reducible refine bl_alloc ?_ _) | (with_reducible refine Below.drew ?_) | (with_reducible refine bl_drewN ?_ _) | (with_reducible refine bl_set ?_ (by omega) _) | (with_reducible refine bl_step ?_ (by assumption)))
  clear hb1 B0
  obtain ⟨m0, m1, m2, m3, m4, m5, m6, m7⟩ := HM.out
  go_wp2_with fail
  refine (HT.out _).mono ?_
  rintro e' w2 ⟨rfl, hb2⟩
  have B2 : Below w.heap.size w w2 := by repeat (first | (with_reducible exact Below.refl _ _) | (with_reducible refine bl_alloc ?_ _) | (with_reducible refine Below.drew ?_) | (with_reducible refine bl_drewN ?_ _) | (with_reducible refine bl_set ?_ (by omega) _) | (with_reducible refine bl_step ?_ (by assumption)))
  clear hb2 B1 m0 m1 m2 m3 m4 m5 m6 m7 HM HT
  go_wp2_with fail
  refine gen_calls (fun W' => Below w.heap.size w W' ∧ Hid (Ny W' w2.heap.size a b c d e f s h)) ⟨by repeat (first | (with_reducible exact Below.refl _ _) | (with_reducible refine bl_alloc ?_ _) | (with_reducible refine Below.drew ?_) | (with_reducible refine bl_drewN ?_ _) | (with_reducible refine bl_set ?_ (by omega) _) | (with_reducible refine bl_step ?_ (by assumption))), hid1 (ny_new rfl)⟩ ?_
  rintro w3 ⟨B3, HN⟩
  have zM : w.heap.size ≤ w2.heap.size := B2.size
  obtain ⟨M, eM⟩ : ∃ M, w2.heap.size = M := ⟨_, rfl⟩
  simp only [eM] at HN zM ⊢
  clear B2 eM
  refine (HX.out _).mono ?_
  rintro e' w4 ⟨rfl, rfl⟩
  go_wp2_with fail
  refine (HY.out _).mono ?_
  rintro e' w5 ⟨rfl, rfl⟩
  go_upto_if 29 with fail
  go_cut [9, 10] (fun s9 s10 wx => s9 = .int .i64 lo ∧ s10 = .int .i64 hi ∧ wx = w5)
  case first =>
    rcases hO.out with ⟨h1, rfl, rfl⟩ | ⟨h1, rfl, rfl⟩
    · go_wp2_with fail
      go_meet
      exact ⟨rfl, rfl, rfl⟩
    · go_wp2_with fail
      go_meet
      exact ⟨rfl, rfl, rfl⟩
  case rest =>
    obtain ⟨rfl, rfl, rfl⟩ := hcut
    clear HX HY hO
    obtain ⟨⟨n0, n1, n2, n3, n4, n5, n6, n7⟩, nf⟩ := HN.out
    clear nf
    go_wp2_with fail
    refine (PA.out _).mono ?_
    rintro e' w6 ⟨rfl, hb6⟩
    replace HN := hid1 (HN.out.keep hb6)
    have B6 : Below w.heap.size w w6 := by repeat (first | (with_reducible exact Below.refl _ _) | (with_reducible refine bl_alloc ?_ _) | (with_reducible refine Below.drew ?_) | (with_reducible refine bl_drewN ?_ _) | (with_reducible refine bl_set ?_ (by omega) _) | (with_reducible refine bl_step ?_ (by assumption)))
    clear hb6 B3 n0 n1 n2 n3 n4 n5 n6 n7
    obtain ⟨⟨n0, n1, n2, n3, n4, n5, n6, n7⟩, nf⟩ := HN.out
    clear nf
    go_wp2_with fail
    refine (PB.out _).mono ?_
    rintro e' w7 ⟨rfl, hb7⟩
    replace HN := hid1 (HN.out.keep hb7)
    have B7 : Below w.heap.size w w7 := by repeat (first | (with_reducible exact Below.refl _ _) | (with_reducible refine bl_alloc ?_ _) | (with_reducible refine Below.drew ?_) | (with_reducible refine bl_drewN ?_ _) | (with_reducible refine bl_set ?_ (by omega) _) | (with_reducible refine bl_step ?_ (by assumption)))
    clear hb7 B6 n0 n1 n2 n3 n4 n5 n6 n7
    obtain ⟨⟨n0, n1, n2, n3, n4, n5, n6, n7⟩, nf⟩ := HN.out
    go_upto_region 11 with fail
    go_cut [94] (fun s94 wx => s94 = .bool false ∧ wx = w7)
    case first =>
      rcases F.out with ⟨h1, h2⟩ | ⟨h1, h2⟩ | ⟨h1, h2, h3⟩
      · have h1' : ¬ a < 0 := by omega
        have h1'' : ¬ a = 0 := by omega
        cases p with
        | false =>
          cases q with
          | false =>
            go_wp2_with fail
            go_meet
            exact ⟨rfl, rfl⟩
          | true =>
            go_wp2_with fail
            go_meet
            exact ⟨rfl, rfl⟩
        | true =>
          obtain rfl := h2 rfl
          go_wp2_with fail
          go_meet
          exact ⟨rfl, rfl⟩
      · have h1' : ¬ 0 < a := by omega
        have h1'' : ¬ a = 0 := by omega
        cases q with
        | false =>
          cases p with
          | false =>
            go_wp2_with fail
            go_meet
            exact ⟨rfl, rfl⟩
          | true =>
            go_wp2_with fail
            go_meet
            exact ⟨rfl, rfl⟩
        | true =>
          obtain rfl := h2 rfl
          go_wp2_with fail
          go_meet
          exact ⟨rfl, rfl⟩
      · subst h1
        by_cases hc : 0 ≤ c
        · rw [decide_eq_true hc] at h2 h3
          subst h2 h3
          go_wp2_with fail
          go_meet
          exact ⟨rfl, rfl⟩
        · rw [decide_eq_false hc] at h2 h3
          subst h2 h3
          go_wp2_with fail
          go_meet
          exact ⟨rfl, rfl⟩
    case rest =>
      obtain ⟨rfl, rfl⟩ := hcut
      clear F PA PB
      have z := lt_of_cell n0
      clear nf
      go_wp2_with fail
      refine gen_calls (fun W' => Below w.heap.size w W' ∧ Hid (Ny W' M a b c d e f s h)) ⟨by repeat (first | (with_reducible exact Below.refl _ _) | (with_reducible refine bl_alloc ?_ _) | (with_reducible refine Below.drew ?_) | (with_reducible refine bl_drewN ?_ _) | (with_reducible refine bl_set ?_ (by omega) _) | (with_reducible refine bl_step ?_ (by assumption))), hid1 (HN.out.keep (bl_alloc (Below.refl _ _) _))⟩ ?_
      clear n0 n1 n2 n3 n4 n5 n6 n7 z HN B7
      rintro W8 ⟨B8, HN⟩
      refine (PC.out _).mono ?_
      rintro e' w9 ⟨rfl, hb9⟩
      replace HN := hid1 (HN.out.keep hb9)
      have B9 : Below w.heap.size w w9 := by repeat (first | (with_reducible exact Below.refl _ _) | (with_reducible refine bl_alloc ?_ _) | (with_reducible refine Below.drew ?_) | (with_reducible refine bl_drewN ?_ _) | (with_reducible refine bl_set ?_ (by omega) _) | (with_reducible refine bl_step ?_ (by assumption)))
      clear hb9 B8 PC
      obtain ⟨⟨n0, n1, n2, n3, n4, n5, n6, n7⟩, nf⟩ := HN.out
      have z := lt_of_cell n0
      have f4 := nf 4
      have f5 := nf 5
      clear nf
      go_wp2_with fail
      refine gen_calls (fun W' => Below w.heap.size w W' ∧ Hid (Ny W' M a b c d lo 1 s h)) ⟨by repeat (first | (with_reducible exact Below.refl _ _) | (with_reducible refine bl_alloc ?_ _) | (with_reducible refine Below.drew ?_) | (with_reducible refine bl_drewN ?_ _) | (with_reducible refine bl_set ?_ (by omega) _) | (with_reducible refine bl_step ?_ (by assumption))), hid1 (ny_set5 (ny_set4 HN.out))⟩ ?_
      clear n0 n1 n2 n3 n4 n5 n6 n7 z f4 f5 HN B9
      rintro W10 ⟨B10, HN⟩
      refine (PD.out _).mono ?_
      rintro e' w11 ⟨rfl, hb11⟩
      replace HN := hid1 (HN.out.keep hb11)
      have B11 : Below w.heap.size w w11 := by repeat (first | (with_reducible exact Below.refl _ _) | (with_reducible refine bl_alloc ?_ _) | (with_reducible refine Below.drew ?_) | (with_reducible refine bl_drewN ?_ _) | (with_reducible refine bl_set ?_ (by omega) _) | (with_reducible refine bl_step ?_ (by assumption)))
      clear hb11 B10 PD
      obtain ⟨⟨n0, n1, n2, n3, n4, n5, n6, n7⟩, nf⟩ := HN.out
      clear nf
      go_wp2
      go_ret
      exact ⟨by first | rfl | (simp; done), B11⟩
end Go.Proofs.YtboabgjgcnkelaaDoor
