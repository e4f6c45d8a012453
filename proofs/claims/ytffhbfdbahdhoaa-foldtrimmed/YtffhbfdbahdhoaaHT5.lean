/- FoldBack, WALKED. -/
import Derived.Test.YtffhbfdbahdhoaaHT4
namespace Go.Proofs.Ytffhbfdbahdhoaa
open Go.RowKit Go.Shelf Wd
attribute [local go_sem ↓] Go.wp_at_zero Go.wp_at_succ

/-- The sums about two thresholds. -/
def n8 (t u : Int) (k : Nat) : Int := match k with | 0 => -2147483647 | 1 => 2147483647 | 2 => t | 3 => t - 1 | 4 => t + 1 | 5 => u | 6 => u - 1 | _ => u + 1
def Nf (w : World) (b n : Nat) (f : Nat → Int) : Prop := ∀ k, k < n → w.cell? ⟨b, k, none⟩ = some (.int .i64 (f k))
theorem Nf.keep {w w' : World} {b n : Nat} {f : Nat → Int} (h : Nf w b n f) (hb : Below w.heap.size w w') : Nf w' b n f := fun k hk => keepc hb (h k hk)
theorem nf8 {w : World} {b : Nat} {t u : Int} (h0 : w.cell? ⟨b, 0, none⟩ = some (.int .i64 (-2147483647))) (h1 : w.cell? ⟨b, 1, none⟩ = some (.int .i64 2147483647)) (h2 : w.cell? ⟨b, 2, none⟩ = some (.int .i64 t)) (h3 : w.cell? ⟨b, 3, none⟩ = some (.int .i64 (t - 1))) (h4 : w.cell? ⟨b, 4, none⟩ = some (.int .i64 (t + 1))) (h5 : w.cell? ⟨b, 5, none⟩ = some (.int .i64 u)) (h6 : w.cell? ⟨b, 6, none⟩ = some (.int .i64 (u - 1))) (h7 : w.cell? ⟨b, 7, none⟩ = some (.int .i64 (u + 1))) : Nf w b 8 (n8 t u) := fun k hk => by
  match k, hk with
  | 0, _ => exact h0
  | 1, _ => exact h1
  | 2, _ => exact h2
  | 3, _ => exact h3
  | 4, _ => exact h4
  | 5, _ => exact h5
  | 6, _ => exact h6
  | 7, _ => exact h7
theorem back_end {m t k u : Int} (ok1 : okT m t) (ok2 : okT k u) (h : ∀ j, j < 8 → Sm (n8 t u j) → plT m t (n8 t u j) = plT k u (n8 t u j)) : m = k ∧ t = u :=
  ok_one ok1 ok2 (h 0 (by omega) (show Sm (-2147483647) from ⟨by omega, by omega⟩)) (h 1 (by omega) (show Sm 2147483647 from ⟨by omega, by omega⟩)) (h 2 (by omega)) (h 5 (by omega))
/-- The norm of a threshold has that threshold. -/
theorem back_no {m t : Int} (h : okT m t) : noE (gT m) 1 (bT m) 1 t 1 1 1 = 0 := by
  have k := ok_bd h
  unfold noE Fr gT bT
  rw [if_pos, if_neg (by omega)]
  refine ⟨⟨by omega, by omega, ?_, ?_⟩, ⟨by omega, by omega, ?_, ?_⟩, ⟨by omega, by omega, k.1, k.2⟩, by omega, by omega, by omega, by omega⟩ <;> split <;> (try split) <;> omega
theorem back_P {m t : Int} (h : okT m t) : FoP (gT m) 1 (bT m) 1 t 1 1 1 m t := by
  refine ⟨h, fun x hx => ?_⟩
  have k := h
  unfold okT at k
  unfold Sm at hx
  rcases k with ⟨rfl, a, b⟩ | ⟨rfl, a, b⟩ | ⟨rfl | rfl, rfl⟩
  · rw [plT_1, decide_eq_decide]; unfold nv; rw [show gT 1 = 1 by decide, show bT 1 = 0 by decide]; omega
  · rw [plT_2, decide_eq_decide]; unfold nv; rw [show gT 2 = -1 by decide, show bT 2 = 0 by decide]; omega
  · rw [plT_3]; unfold nv; rw [show gT 3 = 0 by decide, show bT 3 = 0 by decide]; simp
  · rw [plT_no (by omega) (by omega) (by omega)]; unfold nv; rw [show gT 4 = 0 by decide, show bT 4 = -1 by decide]; simp
theorem back_fo {m t : Int} (h : okT m t) : foM (gT m) 1 (bT m) 1 t 1 1 1 = m ∧ foT (gT m) 1 (bT m) 1 t 1 1 1 = t := (fo_all (back_no h)).one (back_P h)
set_option maxRecDepth 100000 in
theorem foldBack_no (m t k u : Int) (HN : Hid (∀ w : World, Calls Try.prog 10 #[th m t] w fun x w' => x = .returned (.tuple #[nm 0 0 0 0 0 0 0 0, .int .i64 191]) ∧ Below w.heap.size w w'))
    (HC : Hid (∀ w : World, Calls Try.prog 11 #[th m t] w fun x w' => x = .returned (.int .i64 191) ∧ Below w.heap.size w w')) (w : World) :
    Calls Try.prog 3 #[th m t, th k u] w fun x w' => x = .returned (.bool true) ∧ Below w.heap.size w w' := by
  go_enter Try.func3, Try.ntmps3
  go_wp2_with fail
  refine (obegun_any _).mono ?_
  rintro x w1 ⟨rfl, hb1⟩
  obtain ⟨c0, c1⟩ : C2 w1 w.heap.size m t := C2.keep ⟨by simp [go_sem], by simp [go_sem]⟩ hb1
  have B1 : Below w.heap.size w w1 := by repeat (first | (with_reducible exact Below.refl _ _) | (with_reducible refine bl_alloc ?_ _) | (with_reducible refine Below.drew ?_) | (with_reducible refine bl_drewN ?_ _) | (with_reducible refine bl_set ?_ (by omega) _) | (with_reducible refine bl_step ?_ (by assumption)))
  clear hb1
  go_wp2_with fail
  refine (HN.out _).mono ?_
  rintro x w2 ⟨rfl, hb2⟩
  replace c0 := keepc hb2 c0
  replace c1 := keepc hb2 c1
  have B2 := bl_step B1 hb2
  have z2 := lt_of_cell c0
  clear hb2 B1
  go_wp2_with fail
  refine gen_calls (fun X => Hid (Nm X w2.heap.size 0 0 0 0 0 0 0 0) ∧ Below w.heap.size w X) ⟨hid1 ⟨by simp [go_sem], by simp [go_sem], by simp [go_sem], by simp [go_sem], by simp [go_sem], by simp [go_sem], by simp [go_sem], by simp [go_sem]⟩, by repeat (first | (with_reducible exact Below.refl _ _) | (with_reducible refine bl_alloc ?_ _) | (with_reducible refine Below.drew ?_) | (with_reducible refine bl_drewN ?_ _) | (with_reducible refine bl_set ?_ (by omega) _) | (with_reducible refine bl_step ?_ (by assumption)))⟩ ?_
  clear B2 c0 c1 z2
  rintro X ⟨HM, BX⟩
  refine (HC.out _).mono ?_
  rintro x w3 ⟨rfl, hb3⟩
  have B3 := bl_step BX hb3
  obtain ⟨c0, c1, c2, c3, c4, c5, c6, c7⟩ := HM.out.keep hb3
  clear hb3 BX
  go_wp2
  go_ret
  exact ⟨rfl, by repeat (first | (with_reducible exact Below.refl _ _) | (with_reducible refine bl_alloc ?_ _) | (with_reducible refine Below.drew ?_) | (with_reducible refine bl_drewN ?_ _) | (with_reducible refine bl_set ?_ (by omega) _) | (with_reducible refine bl_step ?_ (by assumption)))⟩
set_option maxHeartbeats 1600000 in
set_option maxRecDepth 100000 in
theorem foldBack_ok (m t k u g b e : Int) (t1 : -2147483647 ≤ t) (t2 : t ≤ 2147483647) (HN : Hid (∀ w : World, Calls Try.prog 10 #[th m t] w fun x w' => x = .returned (.tuple #[nm g 1 b 1 t 1 1 1, .int .i64 0]) ∧ Below w.heap.size w w'))
    (HC : Hid (∀ w : World, Calls Try.prog 11 #[th m t] w fun x w' => x = .returned (.int .i64 0) ∧ Below w.heap.size w w'))
    (HF : Hid (∀ w : World, Calls Try.prog 12 #[nm g 1 b 1 t 1 1 1] w fun x w' => x = .returned (.int .i64 0) ∧ Below w.heap.size w w'))
    (HO : Hid (∀ w : World, Calls Try.prog 13 #[nm g 1 b 1 t 1 1 1] w fun x w' => x = .returned (.tuple #[th m t, .int .i64 0]) ∧ Below w.heap.size w w'))
    (HU : Hid (∀ w : World, Calls Try.prog 11 #[th k u] w fun x w' => x = .returned (.int .i64 e) ∧ Below w.heap.size w w'))
    (HE : Hid ((e != 0) = true ∨ (e = 0 ∧ okT m t ∧ okT k u ∧ -2147483647 ≤ u ∧ u ≤ 2147483647))) (w : World) :
    Calls Try.prog 3 #[th m t, th k u] w fun x w' => x = .returned (.bool true) ∧ Below w.heap.size w w' := by
  go_enter Try.func3, Try.ntmps3
  go_wp2_with fail
  refine (obegun_any _).mono ?_
  rintro x w1 ⟨rfl, hb1⟩
  have HC1 : Hid (C2 w1 w.heap.size m t) := hid1 (C2.keep ⟨by simp [go_sem], by simp [go_sem]⟩ hb1)
  have HD1 : Hid (C2 w1 (w.heap.size + 1) k u) := hid1 (C2.keep ⟨by simp [go_sem], by simp [go_sem]⟩ hb1)
  have B1 : Below w.heap.size w w1 := by repeat (first | (with_reducible exact Below.refl _ _) | (with_reducible refine bl_alloc ?_ _) | (with_reducible refine Below.drew ?_) | (with_reducible refine bl_drewN ?_ _) | (with_reducible refine bl_set ?_ (by omega) _) | (with_reducible refine bl_step ?_ (by assumption)))
  clear hb1
  obtain ⟨c0, c1⟩ := HC1.out
  go_wp2_with fail
  refine (HN.out _).mono ?_
  rintro x w2 ⟨rfl, hb2⟩
  replace HC1 := hid1 (HC1.out.keep hb2)
  replace HD1 := hid1 (HD1.out.keep hb2)
  have B2 := bl_step B1 hb2
  clear hb2 B1 c0 c1 HN
  obtain ⟨c0, c1⟩ := HC1.out
  obtain ⟨d0, d1⟩ := HD1.out
  have z2 := lt_of_cell c0
  have z2' := lt_of_cell d0
  go_wp2_with fail
  refine gen_calls (fun X => Hid (Nm X w2.heap.size g 1 b 1 t 1 1 1) ∧ Hid (C2 X w.heap.size m t) ∧ Hid (C2 X (w.heap.size + 1) k u) ∧ Below w.heap.size w X) ⟨hid1 ⟨by simp [go_sem], by simp [go_sem], by simp [go_sem], by simp [go_sem], by simp [go_sem], by simp [go_sem], by simp [go_sem], by simp [go_sem]⟩, hid1 ⟨by simp [go_sem, *], by simp [go_sem, *]⟩, hid1 ⟨by simp [go_sem, *], by simp [go_sem, *]⟩, by repeat (first | (with_reducible exact Below.refl _ _) | (with_reducible refine bl_alloc ?_ _) | (with_reducible refine Below.drew ?_) | (with_reducible refine bl_drewN ?_ _) | (with_reducible refine bl_set ?_ (by omega) _) | (with_reducible refine bl_step ?_ (by assumption)))⟩ ?_
  clear B2 c0 c1 d0 d1 z2 z2' HC1 HD1
  rintro X ⟨HM, HC1, HD1, BX⟩
  refine (HC.out _).mono ?_
  rintro x w3 ⟨rfl, hb3⟩
  have B3 := bl_step BX hb3
  replace HM := hid1 (HM.out.keep hb3)
  replace HC1 := hid1 (HC1.out.keep hb3)
  replace HD1 := hid1 (HD1.out.keep hb3)
  clear hb3 BX HC
  generalize w2.heap.size = G at *
  obtain ⟨e0, e1, e2, e3, e4, e5, e6, e7⟩ := HM.out
  go_wp2_with fail
  refine (HF.out _).mono ?_
  rintro x w4 ⟨rfl, hb4⟩
  have B4 := bl_step B3 hb4
  replace HM := hid1 (HM.out.keep hb4)
  replace HC1 := hid1 (HC1.out.keep hb4)
  replace HD1 := hid1 (HD1.out.keep hb4)
  clear hb4 B3 HF e0 e1 e2 e3 e4 e5 e6 e7
  obtain ⟨e0, e1, e2, e3, e4, e5, e6, e7⟩ := HM.out
  go_wp2_with fail
  refine (HO.out _).mono ?_
  rintro x w5 ⟨rfl, hb5⟩
  have B5 := bl_step B4 hb5
  replace HM := hid1 (HM.out.keep hb5)
  replace HC1 := hid1 (HC1.out.keep hb5)
  replace HD1 := hid1 (HD1.out.keep hb5)
  clear hb5 B4 HO e0 e1 e2 e3 e4 e5 e6 e7
  obtain ⟨e0, e1, e2, e3, e4, e5, e6, e7⟩ := HM.out
  obtain ⟨c0, c1⟩ := HC1.out
  obtain ⟨d0, d1⟩ := HD1.out
  have z5 := lt_of_cell c0
  have z5' := lt_of_cell d0
  have z5'' := lt_of_cell e0
  go_wp2_with fail
  refine gen_calls (fun X => Hid (C2 X w.heap.size m t) ∧ Hid (C2 X (w.heap.size + 1) k u) ∧ Below w.heap.size w X) ⟨hid1 ⟨by simp [go_sem, *], by simp [go_sem, *]⟩, hid1 ⟨by simp [go_sem, *], by simp [go_sem, *]⟩, by repeat (first | (with_reducible exact Below.refl _ _) | (with_reducible refine bl_alloc ?_ _) | (with_reducible refine Below.drew ?_) | (with_reducible refine bl_drewN ?_ _) | (with_reducible refine bl_set ?_ (by omega) _) | (with_reducible refine bl_step ?_ (by assumption)))⟩ ?_
  clear B5 c0 c1 d0 d1 z5 z5' z5'' HC1 HD1 HM e0 e1 e2 e3 e4 e5 e6 e7
  rintro X ⟨HC1, HD1, BX⟩
  refine (HU.out _).mono ?_
  rintro x w6 ⟨rfl, hb6⟩
  have B6 := bl_step BX hb6
  replace HC1 := hid1 (HC1.out.keep hb6)
  replace HD1 := hid1 (HD1.out.keep hb6)
  clear hb6 BX HU
  obtain ⟨c0, c1⟩ := HC1.out
  obtain ⟨d0, d1⟩ := HD1.out
  rcases HE.out with he | ⟨rfl, ok1, ok2, u1, u2⟩
  · go_wp2
    go_ret
    exact ⟨rfl, B6⟩
  · have HK := hid1 (And.intro ok1 ok2)
    clear ok1 ok2 HE
    have z6 := lt_of_cell c0
    have z6' := lt_of_cell d0
    by_cases hq : m = k ∧ t = u
    · obtain ⟨rfl, rfl⟩ := hq
      go_wp2
      go_ret
      exact ⟨rfl, B6⟩
    · have HQ0 := hid1 hq
      by_cases hq1 : m = k
      · subst hq1
        have hq2 : (t == u) = false := by simp; intro h; exact hq ⟨rfl, h⟩
        clear hq
        go_wp2_with fail
        go_loopw [12] (fun i wr => ∃ n : Nat, n ≤ 8 ∧ i = .int .i64 n ∧ Hid (∀ j, j < n → Sm (n8 t u j) → plT m t (n8 t u j) = plT m u (n8 t u j)) ∧ Hid (C2 wr w.heap.size m t) ∧ Hid (C2 wr (w.heap.size + 1) m u) ∧ Hid (Nf wr w6.heap.size 8 (n8 t u)) ∧ Below w.heap.size w wr) (fun i _ => 8 - (intOf i).toNat)
        case atStart =>
          exact ⟨0, by omega, rfl, hid1 (fun j hj => absurd hj (by omega)), hid1 ⟨by simp [go_sem, *], by simp [go_sem, *]⟩, hid1 ⟨by simp [go_sem, *], by simp [go_sem, *]⟩, hid1 (nf8 (by simp [go_sem]) (by simp [go_sem]) (by simp [go_sem]) (by simp [go_sem]) (by simp [go_sem]) (by simp [go_sem]) (by simp [go_sem]) (by simp [go_sem])), by repeat (first | (with_reducible exact Below.refl _ _) | (with_reducible refine bl_alloc ?_ _) | (with_reducible refine Below.drew ?_) | (with_reducible refine bl_drewN ?_ _) | (with_reducible refine bl_set ?_ (by omega) _) | (with_reducible refine bl_step ?_ (by assumption)))⟩
        case round =>
          clear HC1 HD1 c0 c1 d0 d1 z6 z6' B6
          obtain ⟨n, hn, rfl, HI, HC1, HD1, HS, hnx⟩ := hrel
          have nn0 : (0 : Int) ≤ (n : Int) := by omega
          by_cases hln : n < 8
          · have nn : (n : Int) < 8 := by omega
            have b0 := HS.out n hln
            obtain ⟨c0, c1⟩ := HC1.out
            obtain ⟨d0, d1⟩ := HD1.out
            have HP := hid1 (plus_any m t (n8 t u n))
            have HQ := hid1 (plus_any m u (n8 t u n))
            have HV := hid1 (fun (hh : Sm (n8 t u n) → plT m t (n8 t u n) = plT m u (n8 t u n)) => (fun j (hj : j < n + 1) => if h : j < n then HI.out j h else (by obtain rfl : j = n := (by omega); exact hh) : ∀ j, j < n + 1 → Sm (n8 t u j) → plT m t (n8 t u j) = plT m u (n8 t u j)))
            generalize plT m t (n8 t u n) = p at *
            generalize plT m u (n8 t u n) = q at *
            generalize n8 t u n = v at *
            have HB := hid1 hnx
            clear hnx HI
            go_upto_region 18 with fail
            obtain ⟨r, hr⟩ : ∃ r : Bool, decide (Sm v ∧ p ≠ q) = r := ⟨_, rfl⟩
            have HR := hid1 hr
            clear hr
            go_cut [124] (fun s wx => s = .bool r ∧ Hid (Below wr.heap.size wr wx))
            case first =>
              clear HV
              by_cases v1 : -2147483647 ≤ v
              · by_cases v2 : v ≤ 2147483647
                · cases p <;> cases q
                  · have HE0 := hid1 (decide_eq_false (fun h => h.2 rfl) : decide (Sm v ∧ false ≠ false) = false)
                    go_region_held3 (fun X => (X.cell? ⟨w.heap.size, 0, none⟩ = some (.int .i64 m) ∧ X.cell? ⟨w.heap.size, 1, none⟩ = some (.int .i64 t)) ∧ X.cell? ⟨w.heap.size + 1, 0, none⟩ = some (.int .i64 m) ∧ X.cell? ⟨w.heap.size + 1, 1, none⟩ = some (.int .i64 u)) (((try dsimp only); refine (fun hh => ⟨⟨keepc (W := wr) hh c0, keepc (W := wr) hh c1⟩, keepc (W := wr) hh d0, keepc (W := wr) hh d1⟩) ?_; repeat (first | (with_reducible exact Below.refl _ _) | (with_reducible refine bl_alloc ?_ _) | (with_reducible refine Below.drew ?_) | (with_reducible refine bl_drewN ?_ _) | (with_reducible refine bl_set ?_ (by first | omega | (simp; done) | (simp; omega)) _) | (with_reducible refine bl_step ?_ (by assumption)))))
                      (first
                        | (go_at_call 14; (with_reducible refine (HP.out _).mono ?_); rintro e x1 ⟨rfl, hx1⟩)
                        | (go_at_call 14; (with_reducible refine (HQ.out _).mono ?_); rintro e x2 ⟨rfl, hx2⟩))
                    all_goals go_wp2_with fail
                    all_goals go_meet
                    all_goals exact ⟨congrArg Value.bool (HE0.out.symm.trans HR.out), hid1 (by repeat (first | (with_reducible exact Below.refl _ _) | (with_reducible refine bl_alloc ?_ _) | (with_reducible refine Below.drew ?_) | (with_reducible refine bl_drewN ?_ _) | (with_reducible refine bl_set ?_ (by first | omega | (simp; done) | (simp; omega)) _) | (with_reducible refine bl_step ?_ (by assumption))))⟩
                  · have HE0 := hid1 (decide_eq_true ⟨⟨v1, v2⟩, by simp⟩ : decide (Sm v ∧ false ≠ true) = true)
                    go_region_held3 (fun X => (X.cell? ⟨w.heap.size, 0, none⟩ = some (.int .i64 m) ∧ X.cell? ⟨w.heap.size, 1, none⟩ = some (.int .i64 t)) ∧ X.cell? ⟨w.heap.size + 1, 0, none⟩ = some (.int .i64 m) ∧ X.cell? ⟨w.heap.size + 1, 1, none⟩ = some (.int .i64 u)) (((try dsimp only); refine (fun hh => ⟨⟨keepc (W := wr) hh c0, keepc (W := wr) hh c1⟩, keepc (W := wr) hh d0, keepc (W := wr) hh d1⟩) ?_; repeat (first | (with_reducible exact Below.refl _ _) | (with_reducible refine bl_alloc ?_ _) | (with_reducible refine Below.drew ?_) | (with_reducible refine bl_drewN ?_ _) | (with_reducible refine bl_set ?_ (by first | omega | (simp; done) | (simp; omega)) _) | (with_reducible refine bl_step ?_ (by assumption)))))
                      (first
                        | (go_at_call 14; (with_reducible refine (HP.out _).mono ?_); rintro e x1 ⟨rfl, hx1⟩)
                        | (go_at_call 14; (with_reducible refine (HQ.out _).mono ?_); rintro e x2 ⟨rfl, hx2⟩))
                    all_goals go_wp2_with fail
                    all_goals go_meet
                    all_goals exact ⟨congrArg Value.bool (HE0.out.symm.trans HR.out), hid1 (by repeat (first | (with_reducible exact Below.refl _ _) | (with_reducible refine bl_alloc ?_ _) | (with_reducible refine Below.drew ?_) | (with_reducible refine bl_drewN ?_ _) | (with_reducible refine bl_set ?_ (by first | omega | (simp; done) | (simp; omega)) _) | (with_reducible refine bl_step ?_ (by assumption))))⟩
                  · have HE0 := hid1 (decide_eq_true ⟨⟨v1, v2⟩, by simp⟩ : decide (Sm v ∧ true ≠ false) = true)
                    go_region_held3 (fun X => (X.cell? ⟨w.heap.size, 0, none⟩ = some (.int .i64 m) ∧ X.cell? ⟨w.heap.size, 1, none⟩ = some (.int .i64 t)) ∧ X.cell? ⟨w.heap.size + 1, 0, none⟩ = some (.int .i64 m) ∧ X.cell? ⟨w.heap.size + 1, 1, none⟩ = some (.int .i64 u)) (((try dsimp only); refine (fun hh => ⟨⟨keepc (W := wr) hh c0, keepc (W := wr) hh c1⟩, keepc (W := wr) hh d0, keepc (W := wr) hh d1⟩) ?_; repeat (first | (with_reducible exact Below.refl _ _) | (with_reducible refine bl_alloc ?_ _) | (with_reducible refine Below.drew ?_) | (with_reducible refine bl_drewN ?_ _) | (with_reducible refine bl_set ?_ (by first | omega | (simp; done) | (simp; omega)) _) | (with_reducible refine bl_step ?_ (by assumption)))))
                      (first
                        | (go_at_call 14; (with_reducible refine (HP.out _).mono ?_); rintro e x1 ⟨rfl, hx1⟩)
                        | (go_at_call 14; (with_reducible refine (HQ.out _).mono ?_); rintro e x2 ⟨rfl, hx2⟩))
                    all_goals go_wp2_with fail
                    all_goals go_meet
                    all_goals exact ⟨congrArg Value.bool (HE0.out.symm.trans HR.out), hid1 (by repeat (first | (with_reducible exact Below.refl _ _) | (with_reducible refine bl_alloc ?_ _) | (with_reducible refine Below.drew ?_) | (with_reducible refine bl_drewN ?_ _) | (with_reducible refine bl_set ?_ (by first | omega | (simp; done) | (simp; omega)) _) | (with_reducible refine bl_step ?_ (by assumption))))⟩
                  · have HE0 := hid1 (decide_eq_false (fun h => h.2 rfl) : decide (Sm v ∧ true ≠ true) = false)
                    go_region_held3 (fun X => (X.cell? ⟨w.heap.size, 0, none⟩ = some (.int .i64 m) ∧ X.cell? ⟨w.heap.size, 1, none⟩ = some (.int .i64 t)) ∧ X.cell? ⟨w.heap.size + 1, 0, none⟩ = some (.int .i64 m) ∧ X.cell? ⟨w.heap.size + 1, 1, none⟩ = some (.int .i64 u)) (((try dsimp only); refine (fun hh => ⟨⟨keepc (W := wr) hh c0, keepc (W := wr) hh c1⟩, keepc (W := wr) hh d0, keepc (W := wr) hh d1⟩) ?_; repeat (first | (with_reducible exact Below.refl _ _) | (with_reducible refine bl_alloc ?_ _) | (with_reducible refine Below.drew ?_) | (with_reducible refine bl_drewN ?_ _) | (with_reducible refine bl_set ?_ (by first | omega | (simp; done) | (simp; omega)) _) | (with_reducible refine bl_step ?_ (by assumption)))))
                      (first
                        | (go_at_call 14; (with_reducible refine (HP.out _).mono ?_); rintro e x1 ⟨rfl, hx1⟩)
                        | (go_at_call 14; (with_reducible refine (HQ.out _).mono ?_); rintro e x2 ⟨rfl, hx2⟩))
                    all_goals go_wp2_with fail
                    all_goals go_meet
                    all_goals exact ⟨congrArg Value.bool (HE0.out.symm.trans HR.out), hid1 (by repeat (first | (with_reducible exact Below.refl _ _) | (with_reducible refine bl_alloc ?_ _) | (with_reducible refine Below.drew ?_) | (with_reducible refine bl_drewN ?_ _) | (with_reducible refine bl_set ?_ (by first | omega | (simp; done) | (simp; omega)) _) | (with_reducible refine bl_step ?_ (by assumption))))⟩
                · have HE0 := hid1 (decide_eq_false (fun h => v2 h.1.2) : decide (Sm v ∧ p ≠ q) = false)
                  have v2' : decide (v ≤ 2147483647) = false := decide_eq_false v2
                  clear v2
                  go_quiet (fail)
                  go_wp2_with fail
                  go_meet
                  exact ⟨congrArg Value.bool (HE0.out.symm.trans HR.out), hid1 (by repeat (first | (with_reducible exact Below.refl _ _) | (with_reducible refine bl_alloc ?_ _) | (with_reducible refine Below.drew ?_) | (with_reducible refine bl_drewN ?_ _) | (with_reducible refine bl_set ?_ (by first | omega | (simp; done) | (simp; omega)) _) | (with_reducible refine bl_step ?_ (by assumption))))⟩
              · have HE0 := hid1 (decide_eq_false (fun h => v1 h.1.1) : decide (Sm v ∧ p ≠ q) = false)
                have v1' : decide (-2147483647 ≤ v) = false := decide_eq_false v1
                clear v1
                go_quiet (fail)
                go_wp2_with fail
                go_meet
                exact ⟨congrArg Value.bool (HE0.out.symm.trans HR.out), hid1 (by repeat (first | (with_reducible exact Below.refl _ _) | (with_reducible refine bl_alloc ?_ _) | (with_reducible refine Below.drew ?_) | (with_reducible refine bl_drewN ?_ _) | (with_reducible refine bl_set ?_ (by first | omega | (simp; done) | (simp; omega)) _) | (with_reducible refine bl_step ?_ (by assumption))))⟩
            case rest =>
              obtain ⟨rfl, HX⟩ := hcut
              have BY := bl_step HB.out HX.out
              by_cases hd : Sm v ∧ p ≠ q
              · have er := HR.out.symm.trans (decide_eq_true hd)
                subst er
                clear hd HR
                go_wp2
                go_ret
                exact ⟨rfl, BY⟩
              · have er := HR.out.symm.trans (decide_eq_false hd)
                subst er
                clear HR
                have HI := hid1 (HV.out (fun h => Classical.byContradiction fun h2 => hd ⟨h, h2⟩))
                replace HC1 := hid1 (HC1.out.keep HX.out)
                replace HD1 := hid1 (HD1.out.keep HX.out)
                replace HS := hid1 (HS.out.keep HX.out)
                clear hd HV HX HB b0 c0 c1 d0 d1
                go_wp2_with fail
                exact ⟨⟨n + 1, by omega, by go_num, HI, HC1, HD1, HS, BY⟩, by simp [intOf]; omega⟩
          · have hn8 : n = 8 := by omega
            subst hn8
            exact absurd (back_end HK.out.1 HK.out.2 HI.out) (fun h => HQ0.out (by simpa using h))
      · have hq2 : (m == k) = false := by simp; exact hq1
        clear hq hq1
        go_wp2_with fail
        go_loopw [12] (fun i wr => ∃ n : Nat, n ≤ 8 ∧ i = .int .i64 n ∧ Hid (∀ j, j < n → Sm (n8 t u j) → plT m t (n8 t u j) = plT k u (n8 t u j)) ∧ Hid (C2 wr w.heap.size m t) ∧ Hid (C2 wr (w.heap.size + 1) k u) ∧ Hid (Nf wr w6.heap.size 8 (n8 t u)) ∧ Below w.heap.size w wr) (fun i _ => 8 - (intOf i).toNat)
        case atStart =>
          exact ⟨0, by omega, rfl, hid1 (fun j hj => absurd hj (by omega)), hid1 ⟨by simp [go_sem, *], by simp [go_sem, *]⟩, hid1 ⟨by simp [go_sem, *], by simp [go_sem, *]⟩, hid1 (nf8 (by simp [go_sem]) (by simp [go_sem]) (by simp [go_sem]) (by simp [go_sem]) (by simp [go_sem]) (by simp [go_sem]) (by simp [go_sem]) (by simp [go_sem])), by repeat (first | (with_reducible exact Below.refl _ _) | (with_reducible refine bl_alloc ?_ _) | (with_reducible refine Below.drew ?_) | (with_reducible refine bl_drewN ?_ _) | (with_reducible refine bl_set ?_ (by omega) _) | (with_reducible refine bl_step ?_ (by assumption)))⟩
        case round =>
          clear HC1 HD1 c0 c1 d0 d1 z6 z6' B6
          obtain ⟨n, hn, rfl, HI, HC1, HD1, HS, hnx⟩ := hrel
          have nn0 : (0 : Int) ≤ (n : Int) := by omega
          by_cases hln : n < 8
          · have nn : (n : Int) < 8 := by omega
            have b0 := HS.out n hln
            obtain ⟨c0, c1⟩ := HC1.out
            obtain ⟨d0, d1⟩ := HD1.out
            have HP := hid1 (plus_any m t (n8 t u n))
            have HQ := hid1 (plus_any k u (n8 t u n))
            have HV := hid1 (fun (hh : Sm (n8 t u n) → plT m t (n8 t u n) = plT k u (n8 t u n)) => (fun j (hj : j < n + 1) => if h : j < n then HI.out j h else (by obtain rfl : j = n := (by omega); exact hh) : ∀ j, j < n + 1 → Sm (n8 t u j) → plT m t (n8 t u j) = plT k u (n8 t u j)))
            generalize plT m t (n8 t u n) = p at *
            generalize plT k u (n8 t u n) = q at *
            generalize n8 t u n = v at *
            have HB := hid1 hnx
            clear hnx HI
            go_upto_region 18 with fail
            obtain ⟨r, hr⟩ : ∃ r : Bool, decide (Sm v ∧ p ≠ q) = r := ⟨_, rfl⟩
            have HR := hid1 hr
            clear hr
            go_cut [124] (fun s wx => s = .bool r ∧ Hid (Below wr.heap.size wr wx))
            case first =>
              clear HV
              by_cases v1 : -2147483647 ≤ v
              · by_cases v2 : v ≤ 2147483647
                · cases p <;> cases q
                  · have HE0 := hid1 (decide_eq_false (fun h => h.2 rfl) : decide (Sm v ∧ false ≠ false) = false)
                    go_region_held3 (fun X => (X.cell? ⟨w.heap.size, 0, none⟩ = some (.int .i64 m) ∧ X.cell? ⟨w.heap.size, 1, none⟩ = some (.int .i64 t)) ∧ X.cell? ⟨w.heap.size + 1, 0, none⟩ = some (.int .i64 k) ∧ X.cell? ⟨w.heap.size + 1, 1, none⟩ = some (.int .i64 u)) (((try dsimp only); refine (fun hh => ⟨⟨keepc (W := wr) hh c0, keepc (W := wr) hh c1⟩, keepc (W := wr) hh d0, keepc (W := wr) hh d1⟩) ?_; repeat (first | (with_reducible exact Below.refl _ _) | (with_reducible refine bl_alloc ?_ _) | (with_reducible refine Below.drew ?_) | (with_reducible refine bl_drewN ?_ _) | (with_reducible refine bl_set ?_ (by first | omega | (simp; done) | (simp; omega)) _) | (with_reducible refine bl_step ?_ (by assumption)))))
                      (first
                        | (go_at_call 14; (with_reducible refine (HP.out _).mono ?_); rintro e x1 ⟨rfl, hx1⟩)
                        | (go_at_call 14; (with_reducible refine (HQ.out _).mono ?_); rintro e x2 ⟨rfl, hx2⟩))
                    all_goals go_wp2_with fail
                    all_goals go_meet
                    all_goals exact ⟨congrArg Value.bool (HE0.out.symm.trans HR.out), hid1 (by repeat (first | (with_reducible exact Below.refl _ _) | (with_reducible refine bl_alloc ?_ _) | (with_reducible refine Below.drew ?_) | (with_reducible refine bl_drewN ?_ _) | (with_reducible refine bl_set ?_ (by first | omega | (simp; done) | (simp; omega)) _) | (with_reducible refine bl_step ?_ (by assumption))))⟩
                  · have HE0 := hid1 (decide_eq_true ⟨⟨v1, v2⟩, by simp⟩ : decide (Sm v ∧ false ≠ true) = true)
                    go_region_held3 (fun X => (X.cell? ⟨w.heap.size, 0, none⟩ = some (.int .i64 m) ∧ X.cell? ⟨w.heap.size, 1, none⟩ = some (.int .i64 t)) ∧ X.cell? ⟨w.heap.size + 1, 0, none⟩ = some (.int .i64 k) ∧ X.cell? ⟨w.heap.size + 1, 1, none⟩ = some (.int .i64 u)) (((try dsimp only); refine (fun hh => ⟨⟨keepc (W := wr) hh c0, keepc (W := wr) hh c1⟩, keepc (W := wr) hh d0, keepc (W := wr) hh d1⟩) ?_; repeat (first | (with_reducible exact Below.refl _ _) | (with_reducible refine bl_alloc ?_ _) | (with_reducible refine Below.drew ?_) | (with_reducible refine bl_drewN ?_ _) | (with_reducible refine bl_set ?_ (by first | omega | (simp; done) | (simp; omega)) _) | (with_reducible refine bl_step ?_ (by assumption)))))
                      (first
                        | (go_at_call 14; (with_reducible refine (HP.out _).mono ?_); rintro e x1 ⟨rfl, hx1⟩)
                        | (go_at_call 14; (with_reducible refine (HQ.out _).mono ?_); rintro e x2 ⟨rfl, hx2⟩))
                    all_goals go_wp2_with fail
                    all_goals go_meet
                    all_goals exact ⟨congrArg Value.bool (HE0.out.symm.trans HR.out), hid1 (by repeat (first | (with_reducible exact Below.refl _ _) | (with_reducible refine bl_alloc ?_ _) | (with_reducible refine Below.drew ?_) | (with_reducible refine bl_drewN ?_ _) | (with_reducible refine bl_set ?_ (by first | omega | (simp; done) | (simp; omega)) _) | (with_reducible refine bl_step ?_ (by assumption))))⟩
                  · have HE0 := hid1 (decide_eq_true ⟨⟨v1, v2⟩, by simp⟩ : decide (Sm v ∧ true ≠ false) = true)
                    go_region_held3 (fun X => (X.cell? ⟨w.heap.size, 0, none⟩ = some (.int .i64 m) ∧ X.cell? ⟨w.heap.size, 1, none⟩ = some (.int .i64 t)) ∧ X.cell? ⟨w.heap.size + 1, 0, none⟩ = some (.int .i64 k) ∧ X.cell? ⟨w.heap.size + 1, 1, none⟩ = some (.int .i64 u)) (((try dsimp only); refine (fun hh => ⟨⟨keepc (W := wr) hh c0, keepc (W := wr) hh c1⟩, keepc (W := wr) hh d0, keepc (W := wr) hh d1⟩) ?_; repeat (first | (with_reducible exact Below.refl _ _) | (with_reducible refine bl_alloc ?_ _) | (with_reducible refine Below.drew ?_) | (with_reducible refine bl_drewN ?_ _) | (with_reducible refine bl_set ?_ (by first | omega | (simp; done) | (simp; omega)) _) | (with_reducible refine bl_step ?_ (by assumption)))))
                      (first
                        | (go_at_call 14; (with_reducible refine (HP.out _).mono ?_); rintro e x1 ⟨rfl, hx1⟩)
                        | (go_at_call 14; (with_reducible refine (HQ.out _).mono ?_); rintro e x2 ⟨rfl, hx2⟩))
                    all_goals go_wp2_with fail
                    all_goals go_meet
                    all_goals exact ⟨congrArg Value.bool (HE0.out.symm.trans HR.out), hid1 (by repeat (first | (with_reducible exact Below.refl _ _) | (with_reducible refine bl_alloc ?_ _) | (with_reducible refine Below.drew ?_) | (with_reducible refine bl_drewN ?_ _) | (with_reducible refine bl_set ?_ (by first | omega | (simp; done) | (simp; omega)) _) | (with_reducible refine bl_step ?_ (by assumption))))⟩
                  · have HE0 := hid1 (decide_eq_false (fun h => h.2 rfl) : decide (Sm v ∧ true ≠ true) = false)
                    go_region_held3 (fun X => (X.cell? ⟨w.heap.size, 0, none⟩ = some (.int .i64 m) ∧ X.cell? ⟨w.heap.size, 1, none⟩ = some (.int .i64 t)) ∧ X.cell? ⟨w.heap.size + 1, 0, none⟩ = some (.int .i64 k) ∧ X.cell? ⟨w.heap.size + 1, 1, none⟩ = some (.int .i64 u)) (((try dsimp only); refine (fun hh => ⟨⟨keepc (W := wr) hh c0, keepc (W := wr) hh c1⟩, keepc (W := wr) hh d0, keepc (W := wr) hh d1⟩) ?_; repeat (first | (with_reducible exact Below.refl _ _) | (with_reducible refine bl_alloc ?_ _) | (with_reducible refine Below.drew ?_) | (with_reducible refine bl_drewN ?_ _) | (with_reducible refine bl_set ?_ (by first | omega | (simp; done) | (simp; omega)) _) | (with_reducible refine bl_step ?_ (by assumption)))))
                      (first
                        | (go_at_call 14; (with_reducible refine (HP.out _).mono ?_); rintro e x1 ⟨rfl, hx1⟩)
                        | (go_at_call 14; (with_reducible refine (HQ.out _).mono ?_); rintro e x2 ⟨rfl, hx2⟩))
                    all_goals go_wp2_with fail
                    all_goals go_meet
                    all_goals exact ⟨congrArg Value.bool (HE0.out.symm.trans HR.out), hid1 (by repeat (first | (with_reducible exact Below.refl _ _) | (with_reducible refine bl_alloc ?_ _) | (with_reducible refine Below.drew ?_) | (with_reducible refine bl_drewN ?_ _) | (with_reducible refine bl_set ?_ (by first | omega | (simp; done) | (simp; omega)) _) | (with_reducible refine bl_step ?_ (by assumption))))⟩
                · have HE0 := hid1 (decide_eq_false (fun h => v2 h.1.2) : decide (Sm v ∧ p ≠ q) = false)
                  have v2' : decide (v ≤ 2147483647) = false := decide_eq_false v2
                  clear v2
                  go_quiet (fail)
                  go_wp2_with fail
                  go_meet
                  exact ⟨congrArg Value.bool (HE0.out.symm.trans HR.out), hid1 (by repeat (first | (with_reducible exact Below.refl _ _) | (with_reducible refine bl_alloc ?_ _) | (with_reducible refine Below.drew ?_) | (with_reducible refine bl_drewN ?_ _) | (with_reducible refine bl_set ?_ (by first | omega | (simp; done) | (simp; omega)) _) | (with_reducible refine bl_step ?_ (by assumption))))⟩
              · have HE0 := hid1 (decide_eq_false (fun h => v1 h.1.1) : decide (Sm v ∧ p ≠ q) = false)
                have v1' : decide (-2147483647 ≤ v) = false := decide_eq_false v1
                clear v1
                go_quiet (fail)
                go_wp2_with fail
                go_meet
                exact ⟨congrArg Value.bool (HE0.out.symm.trans HR.out), hid1 (by repeat (first | (with_reducible exact Below.refl _ _) | (with_reducible refine bl_alloc ?_ _) | (with_reducible refine Below.drew ?_) | (with_reducible refine bl_drewN ?_ _) | (with_reducible refine bl_set ?_ (by first | omega | (simp; done) | (simp; omega)) _) | (with_reducible refine bl_step ?_ (by assumption))))⟩
            case rest =>
              obtain ⟨rfl, HX⟩ := hcut
              have BY := bl_step HB.out HX.out
              by_cases hd : Sm v ∧ p ≠ q
              · have er := HR.out.symm.trans (decide_eq_true hd)
                subst er
                clear hd HR
                go_wp2
                go_ret
                exact ⟨rfl, BY⟩
              · have er := HR.out.symm.trans (decide_eq_false hd)
                subst er
                clear HR
                have HI := hid1 (HV.out (fun h => Classical.byContradiction fun h2 => hd ⟨h, h2⟩))
                replace HC1 := hid1 (HC1.out.keep HX.out)
                replace HD1 := hid1 (HD1.out.keep HX.out)
                replace HS := hid1 (HS.out.keep HX.out)
                clear hd HV HX HB b0 c0 c1 d0 d1
                go_wp2_with fail
                exact ⟨⟨n + 1, by omega, by go_num, HI, HC1, HD1, HS, BY⟩, by simp [intOf]; omega⟩
          · have hn8 : n = 8 := by omega
            subst hn8
            exact absurd (back_end HK.out.1 HK.out.2 HI.out) (fun h => HQ0.out (by simpa using h))
theorem foldBack_any (m t k u : Int) (w : World) :
    Calls Try.prog 3 #[th m t, th k u] w fun x w' => x = .returned (.bool true) ∧ Below w.heap.size w w' := by
  have HN := hid1 (fnorm_any m t)
  have HC := hid1 (fck_any m t)
  unfold nT at HN
  by_cases h : okT m t
  · rw [if_pos h, if_pos h, if_pos h, if_pos h, ckT_ok h] at HN
    rw [ckT_ok h] at HC
    have HF := hid1 (norm_any (gT m) 1 (bT m) 1 t 1 1 1)
    rw [back_no h] at HF
    have HO := hid1 (fold_any (gT m) 1 (bT m) 1 t 1 1 1)
    unfold foA at HO
    rw [back_no h, if_pos rfl, if_pos rfl, (back_fo h).1, (back_fo h).2] at HO
    refine foldBack_ok m t k u _ _ _ (ok_bd h).1 (ok_bd h).2 HN HC HF HO (hid1 (fck_any k u)) (hid1 ?_) w
    by_cases h2 : okT k u
    · exact .inr ⟨ckT_ok h2, h, h2, (ok_bd h2).1, (ok_bd h2).2⟩
    · rw [ckT_no h2]; exact .inl (by decide)
  · rw [if_neg h, if_neg h, if_neg h, if_neg h, ckT_no h] at HN
    rw [ckT_no h] at HC
    exact foldBack_no m t k u HN HC w
end Go.Proofs.Ytffhbfdbahdhoaa
