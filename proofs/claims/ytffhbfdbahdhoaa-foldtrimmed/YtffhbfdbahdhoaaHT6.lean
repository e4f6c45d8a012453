/- FoldTrimmed, WALKED. -/
import Derived.Test.YtffhbfdbahdhoaaHT5
namespace Go.Proofs.Ytffhbfdbahdhoaa
open Go.RowKit Go.Shelf Wd
attribute [local go_sem ↓] Go.wp_at_zero Go.wp_at_succ

theorem ok_form {m t : Int} (h : okT m t) : m = 1 ∨ m = 2 ∨ ((m = 3 ∨ m = 4) ∧ t = 0) := by unfold okT at h; omega
/-- What is left of one that may be, may be; and stays. -/
theorem st_ok2 {m t : Int} (lo hi : Int) (h : okT m t) : okT (stM m t lo hi) (stT m t lo hi) := by
  unfold stM stT
  by_cases e : plT m t lo = plT m t hi
  · rw [if_pos e, if_pos e]
    split
    · exact .inr (.inr ⟨.inl rfl, rfl⟩)
    · exact .inr (.inr ⟨.inr rfl, rfl⟩)
  · rw [if_neg e, if_neg e]; exact h
theorem st_stay (m t lo hi : Int) : stM (stM m t lo hi) (stT m t lo hi) lo hi = stM m t lo hi ∧ stT (stM m t lo hi) (stT m t lo hi) lo hi = stT m t lo hi := by
  by_cases e : plT m t lo = plT m t hi
  · cases e1 : plT m t lo
    · obtain ⟨a, b⟩ := st_no e1 (e.symm.trans e1)
      rw [a, b]; exact st_no (plT_no (by omega) (by omega) (by omega)) (plT_no (by omega) (by omega) (by omega))
    · obtain ⟨a, b⟩ := st_yes e1 (e.symm.trans e1)
      rw [a, b]; exact st_yes (plT_3 _ _) (plT_3 _ _)
  · have a : stM m t lo hi = m := by unfold stM; rw [if_neg e]
    have b : stT m t lo hi = t := by unfold stT; rw [if_neg e]
    rw [a, b]; exact ⟨a, b⟩
theorem st_mode {m t lo hi : Int} (h : okT m t) (e : plT m t lo ≠ plT m t hi) : m ≠ 3 ∧ m ≠ 4 := by
  refine ⟨fun k => ?_, fun k => ?_⟩
  · subst k; exact e (by rw [plT_3, plT_3])
  · subst k; exact e (by rw [plT_no (by omega) (by omega) (by omega), plT_no (by omega) (by omega) (by omega)])
theorem tr_in {m t lo hi : Int} (h : okT m t) (a : -2147483647 ≤ lo) (b : hi ≤ 2147483647) (c : lo ≤ hi) : trE m t lo hi = 0 ∧ trM m t lo hi = stM m t lo hi ∧ trT m t lo hi = stT m t lo hi := by
  have e : trE m t lo hi = 0 := by unfold trE; rw [if_pos h, if_pos ⟨a, b, c⟩]
  exact ⟨e, by unfold trM; rw [if_pos e], by unfold trT; rw [if_pos e]⟩
/-- The sums about a reach. -/
def n5 (lo hi x t : Int) (k : Nat) : Int := match k with | 0 => lo | 1 => hi | 2 => x | 3 => t | _ => t - 1
theorem nf5 {w : World} {b : Nat} {lo hi x t : Int} (h0 : w.cell? ⟨b, 0, none⟩ = some (.int .i64 lo)) (h1 : w.cell? ⟨b, 1, none⟩ = some (.int .i64 hi)) (h2 : w.cell? ⟨b, 2, none⟩ = some (.int .i64 x)) (h3 : w.cell? ⟨b, 3, none⟩ = some (.int .i64 t)) (h4 : w.cell? ⟨b, 4, none⟩ = some (.int .i64 (t - 1))) : Nf w b 5 (n5 lo hi x t) := fun k hk => by
  match k, hk with
  | 0, _ => exact h0
  | 1, _ => exact h1
  | 2, _ => exact h2
  | 3, _ => exact h3
  | 4, _ => exact h4
set_option maxHeartbeats 1600000 in
set_option maxRecDepth 100000 in
theorem foldTrimmed_no (m t a b x xa xb lo hi : Int)
    (HA : Hid (∀ w : World, Calls Try.prog 15 #[.int .i64 a] w fun x w' => x = .returned (.int .i64 xa) ∧ w' = w))
    (HB : Hid (∀ w : World, Calls Try.prog 15 #[.int .i64 b] w fun x w' => x = .returned (.int .i64 xb) ∧ w' = w))
    (HO : Hid ((xb < xa ∧ lo = xb ∧ hi = xa) ∨ (xa ≤ xb ∧ lo = xa ∧ hi = xb)))
    (HK : Hid (∀ w : World, Calls Try.prog 11 #[th m t] w fun x w' => x = .returned (.int .i64 191) ∧ Below w.heap.size w w'))
    (HT : Hid (∀ w : World, Calls Try.prog 16 #[th m t, th lo hi] w fun x w' => x = .returned (.tuple #[th 0 0, .int .i64 191]) ∧ Below w.heap.size w w')) (w : World) :
    Calls Try.prog 4 #[th m t, .int .i64 a, .int .i64 b, .int .i64 x] w fun x w' => x = .returned (.bool true) ∧ Below w.heap.size w w' := by
  go_enter Try.func4, Try.ntmps4
  go_wp2_with fail
  refine (obegun_any _).mono ?_
  rintro y w1 ⟨rfl, hb1⟩
  have HC : Hid (C2 w1 w.heap.size m t) := hid1 (C2.keep ⟨by simp [go_sem], by simp [go_sem]⟩ hb1)
  have B : Below w.heap.size w w1 := by repeat (first | (with_reducible exact Below.refl _ _) | (with_reducible refine bl_alloc ?_ _) | (with_reducible refine Below.drew ?_) | (with_reducible refine bl_drewN ?_ _) | (with_reducible refine bl_set ?_ (by omega) _) | (with_reducible refine bl_step ?_ (by assumption)))
  clear hb1
  go_wp2_with fail
  refine (HA.out _).mono ?_
  rintro y wa ⟨rfl, ea⟩
  subst ea
  go_wp2_with fail
  refine (HB.out _).mono ?_
  rintro y wb ⟨rfl, eb⟩
  subst eb
  obtain ⟨c0, c1⟩ := HC.out
  have zc := lt_of_cell c0
  go_upto_if 33 with fail
  go_cut [] (fun wx => Hid (C2 wx w.heap.size m t) ∧ Hid (C2 wx wb.heap.size lo hi) ∧ Hid (Below w.heap.size w wx))
  case first =>
    rcases HO.out with ⟨o1, rfl, rfl⟩ | ⟨o1, rfl, rfl⟩
    · go_wp2
      go_meet
      exact ⟨hid1 ⟨by simp [go_sem, *], by simp [go_sem, *]⟩, hid1 ⟨by simp [go_sem], by simp [go_sem]⟩, hid1 (by repeat (first | (with_reducible exact Below.refl _ _) | (with_reducible refine bl_alloc ?_ _) | (with_reducible refine Below.drew ?_) | (with_reducible refine bl_drewN ?_ _) | (with_reducible refine bl_set ?_ (by first | omega | (simp; done) | (simp; omega)) _) | (with_reducible refine bl_step ?_ (by assumption))))⟩
    · go_wp2
      go_meet
      exact ⟨hid1 ⟨by simp [go_sem, *], by simp [go_sem, *]⟩, hid1 ⟨by simp [go_sem], by simp [go_sem]⟩, hid1 (by repeat (first | (with_reducible exact Below.refl _ _) | (with_reducible refine bl_alloc ?_ _) | (with_reducible refine Below.drew ?_) | (with_reducible refine bl_drewN ?_ _) | (with_reducible refine bl_set ?_ (by first | omega | (simp; done) | (simp; omega)) _) | (with_reducible refine bl_step ?_ (by assumption))))⟩
  case rest =>
    clear HC B c0 c1 zc
    obtain ⟨HC, HR, HB0⟩ := hcut
    have B := HB0.out
    clear HB0 HO HA HB
    generalize wb.heap.size = R at *
    obtain ⟨c0, c1⟩ := HC.out
    obtain ⟨d0, d1⟩ := HR.out
    go_wp2_with fail
    refine (HK.out _).mono ?_
    rintro y w3 ⟨rfl, hb3⟩
    replace HC := hid1 (HC.out.keep hb3)
    replace HR := hid1 (HR.out.keep hb3)
    replace B := bl_step B hb3
    clear hb3 c0 c1 d0 d1
    obtain ⟨c0, c1⟩ := HC.out
    obtain ⟨d0, d1⟩ := HR.out
    go_wp2_with fail
    refine (HT.out _).mono ?_
    rintro y w4 ⟨rfl, hb4⟩
    replace B := bl_step B hb4
    clear hb4 c0 c1 d0 d1
    go_wp2
    go_ret
    exact ⟨rfl, by repeat (first | (with_reducible exact Below.refl _ _) | (with_reducible refine bl_alloc ?_ _) | (with_reducible refine Below.drew ?_) | (with_reducible refine bl_drewN ?_ _) | (with_reducible refine bl_set ?_ (by omega) _) | (with_reducible refine bl_step ?_ (by assumption)))⟩
set_option maxHeartbeats 3200000 in
set_option maxRecDepth 100000 in
theorem foldTrimmed_ok (m t a b x xa xb xc lo hi M T : Int) (p q : Bool) (t1 : -2147483647 ≤ t) (t2 : t ≤ 2147483647)
    (HA : Hid (∀ w : World, Calls Try.prog 15 #[.int .i64 a] w fun x w' => x = .returned (.int .i64 xa) ∧ w' = w))
    (HB : Hid (∀ w : World, Calls Try.prog 15 #[.int .i64 b] w fun x w' => x = .returned (.int .i64 xb) ∧ w' = w))
    (HX : Hid (∀ w : World, Calls Try.prog 15 #[.int .i64 x] w fun x w' => x = .returned (.int .i64 xc) ∧ w' = w))
    (HO : Hid ((xb < xa ∧ lo = xb ∧ hi = xa) ∨ (xa ≤ xb ∧ lo = xa ∧ hi = xb)))
    (HK : Hid (∀ w : World, Calls Try.prog 11 #[th m t] w fun x w' => x = .returned (.int .i64 0) ∧ Below w.heap.size w w'))
    (HT : Hid (∀ w : World, Calls Try.prog 16 #[th m t, th lo hi] w fun x w' => x = .returned (.tuple #[th M T, .int .i64 0]) ∧ Below w.heap.size w w'))
    (HT2 : Hid (∀ w : World, Calls Try.prog 16 #[th M T, th lo hi] w fun x w' => x = .returned (.tuple #[th M T, .int .i64 0]) ∧ Below w.heap.size w w'))
    (HK2 : Hid (∀ w : World, Calls Try.prog 11 #[th M T] w fun x w' => x = .returned (.int .i64 0) ∧ Below w.heap.size w w'))
    (HP : Hid (∀ w : World, Calls Try.prog 14 #[th m t, .int .i64 lo] w fun x w' => x = .returned (.bool p) ∧ Below w.heap.size w w'))
    (HQ : Hid (∀ w : World, Calls Try.prog 14 #[th m t, .int .i64 hi] w fun x w' => x = .returned (.bool q) ∧ Below w.heap.size w w'))
    (HG : Hid ((p = false ∧ q = false ∧ M = 4 ∧ T = 0) ∨ (p = true ∧ q = true ∧ M = 3 ∧ T = 0) ∨ (p ≠ q ∧ M = m ∧ T = t ∧ (m == 3) = false ∧ (m == 4) = false)))
    (HV : Hid (∀ v, lo ≤ v → v ≤ hi → plT M T v = plT m t v)) (w : World) :
    Calls Try.prog 4 #[th m t, .int .i64 a, .int .i64 b, .int .i64 x] w fun x w' => x = .returned (.bool true) ∧ Below w.heap.size w w' := by
  have HWT : Hid (IntKind.i64.wrap (t - 1) = t - 1) := hid1 (by rw [IntKind.wrap_i64]; omega)
  go_enter Try.func4, Try.ntmps4
  go_wp2_with fail
  refine (obegun_any _).mono ?_
  rintro y w1 ⟨rfl, hb1⟩
  have HC : Hid (C2 w1 w.heap.size m t) := hid1 (C2.keep ⟨by simp [go_sem], by simp [go_sem]⟩ hb1)
  have B : Below w.heap.size w w1 := by repeat (first | (with_reducible exact Below.refl _ _) | (with_reducible refine bl_alloc ?_ _) | (with_reducible refine Below.drew ?_) | (with_reducible refine bl_drewN ?_ _) | (with_reducible refine bl_set ?_ (by omega) _) | (with_reducible refine bl_step ?_ (by assumption)))
  clear hb1
  go_wp2_with fail
  refine (HA.out _).mono ?_
  rintro y wa ⟨rfl, ea⟩
  subst ea
  go_wp2_with fail
  refine (HB.out _).mono ?_
  rintro y wb ⟨rfl, eb⟩
  subst eb
  obtain ⟨c0, c1⟩ := HC.out
  have zc := lt_of_cell c0
  go_upto_if 33 with fail
  go_cut [] (fun wx => Hid (C2 wx w.heap.size m t) ∧ Hid (C2 wx wb.heap.size lo hi) ∧ Hid (Below w.heap.size w wx))
  case first =>
    rcases HO.out with ⟨o1, rfl, rfl⟩ | ⟨o1, rfl, rfl⟩
    · go_wp2
      go_meet
      exact ⟨hid1 ⟨by simp [go_sem, *], by simp [go_sem, *]⟩, hid1 ⟨by simp [go_sem], by simp [go_sem]⟩, hid1 (by repeat (first | (with_reducible exact Below.refl _ _) | (with_reducible refine bl_alloc ?_ _) | (with_reducible refine Below.drew ?_) | (with_reducible refine bl_drewN ?_ _) | (with_reducible refine bl_set ?_ (by first | omega | (simp; done) | (simp; omega)) _) | (with_reducible refine bl_step ?_ (by assumption))))⟩
    · go_wp2
      go_meet
      exact ⟨hid1 ⟨by simp [go_sem, *], by simp [go_sem, *]⟩, hid1 ⟨by simp [go_sem], by simp [go_sem]⟩, hid1 (by repeat (first | (with_reducible exact Below.refl _ _) | (with_reducible refine bl_alloc ?_ _) | (with_reducible refine Below.drew ?_) | (with_reducible refine bl_drewN ?_ _) | (with_reducible refine bl_set ?_ (by first | omega | (simp; done) | (simp; omega)) _) | (with_reducible refine bl_step ?_ (by assumption))))⟩
  case rest =>
    clear HC B c0 c1 zc
    obtain ⟨HC, HR, HB0⟩ := hcut
    have B := HB0.out
    clear HB0 HO HA HB
    generalize wb.heap.size = R at *
    obtain ⟨c0, c1⟩ := HC.out
    obtain ⟨d0, d1⟩ := HR.out
    go_wp2_with fail
    refine (HK.out _).mono ?_
    rintro y w3 ⟨rfl, hb3⟩
    replace HC := hid1 (HC.out.keep hb3)
    replace HR := hid1 (HR.out.keep hb3)
    replace B := bl_step B hb3
    clear hb3 c0 c1 d0 d1 HK
    obtain ⟨c0, c1⟩ := HC.out
    obtain ⟨d0, d1⟩ := HR.out
    go_wp2_with fail
    refine (HT.out _).mono ?_
    rintro y w4 ⟨rfl, hb4⟩
    replace HC := hid1 (HC.out.keep hb4)
    replace HR := hid1 (HR.out.keep hb4)
    replace B := bl_step B hb4
    clear hb4 c0 c1 d0 d1 HT
    obtain ⟨c0, c1⟩ := HC.out
    obtain ⟨d0, d1⟩ := HR.out
    have zc := lt_of_cell c0
    have zd := lt_of_cell d0
    go_wp2_with fail
    refine gen_calls (fun X => Hid (C2 X w.heap.size m t) ∧ Hid (C2 X R lo hi) ∧ Hid (C2 X w4.heap.size M T) ∧ Below w.heap.size w X) ⟨hid1 ⟨by simp [go_sem, *], by simp [go_sem, *]⟩, hid1 ⟨by simp [go_sem, *], by simp [go_sem, *]⟩, hid1 ⟨by simp [go_sem], by simp [go_sem]⟩, by repeat (first | (with_reducible exact Below.refl _ _) | (with_reducible refine bl_alloc ?_ _) | (with_reducible refine Below.drew ?_) | (with_reducible refine bl_drewN ?_ _) | (with_reducible refine bl_set ?_ (by omega) _) | (with_reducible refine bl_step ?_ (by assumption)))⟩ ?_
    clear c0 c1 d0 d1 HC HR B zc zd
    rintro X ⟨HC, HR, HU, B⟩
    refine (HT2.out _).mono ?_
    rintro y w5 ⟨rfl, hb5⟩
    replace HC := hid1 (HC.out.keep hb5)
    replace HR := hid1 (HR.out.keep hb5)
    replace B := bl_step B hb5
    replace HU := hid1 (HU.out.keep hb5)
    clear hb5 HT2
    generalize w4.heap.size = U at *
    obtain ⟨c0, c1⟩ := HC.out
    obtain ⟨d0, d1⟩ := HR.out
    obtain ⟨e0, e1⟩ := HU.out
    have zc := lt_of_cell c0
    have zd := lt_of_cell d0
    have ze := lt_of_cell e0
    go_wp2_with fail
    refine gen_calls (fun X => Hid (C2 X w.heap.size m t) ∧ Hid (C2 X R lo hi) ∧ Hid (C2 X U M T) ∧ Below w.heap.size w X) ⟨hid1 ⟨by simp [go_sem, *], by simp [go_sem, *]⟩, hid1 ⟨by simp [go_sem, *], by simp [go_sem, *]⟩, hid1 ⟨by simp [go_sem, *], by simp [go_sem, *]⟩, by repeat (first | (with_reducible exact Below.refl _ _) | (with_reducible refine bl_alloc ?_ _) | (with_reducible refine Below.drew ?_) | (with_reducible refine bl_drewN ?_ _) | (with_reducible refine bl_set ?_ (by omega) _) | (with_reducible refine bl_step ?_ (by assumption)))⟩ ?_
    clear c0 c1 d0 d1 HC HR B zc zd e0 e1 ze HU
    rintro X ⟨HC, HR, HU, B⟩
    refine (HK2.out _).mono ?_
    rintro y w6 ⟨rfl, hb6⟩
    replace HC := hid1 (HC.out.keep hb6)
    replace HR := hid1 (HR.out.keep hb6)
    replace B := bl_step B hb6
    replace HU := hid1 (HU.out.keep hb6)
    clear hb6 HK2
    obtain ⟨c0, c1⟩ := HC.out
    obtain ⟨d0, d1⟩ := HR.out
    go_wp2_with fail
    refine (HP.out _).mono ?_
    rintro y w7 ⟨rfl, hb7⟩
    replace HC := hid1 (HC.out.keep hb7)
    replace HR := hid1 (HR.out.keep hb7)
    replace B := bl_step B hb7
    replace HU := hid1 (HU.out.keep hb7)
    clear hb7 c0 c1 d0 d1 HP
    obtain ⟨c0, c1⟩ := HC.out
    obtain ⟨d0, d1⟩ := HR.out
    go_wp2_with fail
    refine (HQ.out _).mono ?_
    rintro y w8 ⟨rfl, hb8⟩
    replace HC := hid1 (HC.out.keep hb8)
    replace HR := hid1 (HR.out.keep hb8)
    replace B := bl_step B hb8
    replace HU := hid1 (HU.out.keep hb8)
    clear hb8 c0 c1 d0 d1 HQ
    obtain ⟨c0, c1⟩ := HC.out
    obtain ⟨d0, d1⟩ := HR.out
    obtain ⟨e0, e1⟩ := HU.out
    go_upto_region 16 with fail
    go_cut [123] (fun s wx => s = .bool false ∧ wx = w8)
    case first =>
      rcases HG.out with ⟨rfl, rfl, rfl, rfl⟩ | ⟨rfl, rfl, rfl, rfl⟩ | ⟨g1, rfl, rfl, g2, g3⟩
      · go_wp2
        go_meet
        exact ⟨rfl, rfl⟩
      · go_wp2
        go_meet
        exact ⟨rfl, rfl⟩
      · cases p <;> cases q
        · exact absurd rfl g1
        · go_wp2
          go_meet
          exact ⟨rfl, rfl⟩
        · go_wp2
          go_meet
          exact ⟨rfl, rfl⟩
        · exact absurd rfl g1
    case rest =>
      obtain ⟨rfl, ew⟩ := hcut
      subst ew
      clear HG
      have zc := lt_of_cell c0
      have zd := lt_of_cell d0
      have ze := lt_of_cell e0
      go_upto_region 18 with fail
      go_cut [19] (fun s wx => ∃ N, s = .pointer (some ⟨N, 0, none⟩) ∧ Hid (Below wc.heap.size wc wx) ∧ Hid (Nf wx N 5 (n5 lo hi xc t)))
      case first =>
        go_region_held3 (fun X => (X.cell? ⟨w.heap.size, 0, none⟩ = some (.int .i64 m) ∧ X.cell? ⟨w.heap.size, 1, none⟩ = some (.int .i64 t)) ∧ X.cell? ⟨R, 0, none⟩ = some (.int .i64 lo) ∧ X.cell? ⟨R, 1, none⟩ = some (.int .i64 hi)) (((try dsimp only); refine (fun hh => ⟨⟨keepc (W := wc) hh c0, keepc (W := wc) hh c1⟩, keepc (W := wc) hh d0, keepc (W := wc) hh d1⟩) ?_; repeat (first | (with_reducible exact Below.refl _ _) | (with_reducible refine bl_alloc ?_ _) | (with_reducible refine Below.drew ?_) | (with_reducible refine bl_drewN ?_ _) | (with_reducible refine bl_set ?_ (by first | omega | (simp; done) | (simp; omega)) _) | (with_reducible refine bl_step ?_ (by assumption)))))
          (first | (go_at_call 15; (with_reducible refine (HX.out _).mono ?_); rintro e x1 ⟨rfl, rfl⟩))
        all_goals go_wp2_with fail
        all_goals go_meet
        all_goals exact ⟨_, rfl, hid1 (by repeat (first | (with_reducible exact Below.refl _ _) | (with_reducible refine bl_alloc ?_ _) | (with_reducible refine Below.drew ?_) | (with_reducible refine bl_drewN ?_ _) | (with_reducible refine bl_set ?_ (by first | omega | (simp; done) | (simp; omega)) _) | (with_reducible refine bl_step ?_ (by assumption)))), hid1 (nf5 (by simp [go_sem]) (by simp [go_sem]) (by simp [go_sem]) (by simp [go_sem]) (by simp [go_sem, HWT.out]))⟩
      case rest =>
        obtain ⟨N, rfl, HY, HN⟩ := hcut
        replace HC := hid1 (HC.out.keep HY.out)
        replace HR := hid1 (HR.out.keep HY.out)
        replace HU := hid1 (HU.out.keep HY.out)
        replace B := bl_step B HY.out
        clear HY c0 c1 d0 d1 e0 e1 zc zd ze HX
        go_wp2_with fail
        go_loopw [20] (fun i wr => ∃ n : Nat, n ≤ 5 ∧ i = .int .i64 n ∧ Hid (C2 wr w.heap.size m t) ∧ Hid (C2 wr R lo hi) ∧ Hid (C2 wr U M T) ∧ Hid (Nf wr N 5 (n5 lo hi xc t)) ∧ Below w.heap.size w wr) (fun i _ => 5 - (intOf i).toNat)
        case atStart => exact ⟨0, by omega, rfl, HC, HR, HU, HN, B⟩
        case round =>
          clear HC HR HU HN B
          obtain ⟨k, hk, rfl, HC, HR, HU, HN, hnx⟩ := hrel
          have nn0 : (0 : Int) ≤ (k : Int) := by omega
          by_cases hln : k < 5
          · have nn : (k : Int) < 5 := by omega
            have b0 := HN.out k hln
            obtain ⟨c0, c1⟩ := HC.out
            obtain ⟨d0, d1⟩ := HR.out
            obtain ⟨e0, e1⟩ := HU.out
            generalize n5 lo hi xc t k = v at *
            have HB := hid1 hnx
            clear hnx
            go_upto_region 22 with fail
            go_cut [166] (fun s wx => s = .bool false ∧ Hid (Below wr.heap.size wr wx))
            case first =>
              by_cases v1 : lo ≤ v
              · by_cases v2 : v ≤ hi
                · have HP := hid1 (plus_any m t v)
                  have HQ := hid1 (plus_any M T v)
                  rw [HV.out v v1 v2] at HQ
                  generalize plT m t v = pp at *
                  cases pp
                  · (
                    go_region_held3 (fun X => (X.cell? ⟨w.heap.size, 0, none⟩ = some (.int .i64 m) ∧ X.cell? ⟨w.heap.size, 1, none⟩ = some (.int .i64 t)) ∧ X.cell? ⟨R, 0, none⟩ = some (.int .i64 lo) ∧ X.cell? ⟨R, 1, none⟩ = some (.int .i64 hi) ∧ X.cell? ⟨U, 0, none⟩ = some (.int .i64 M) ∧ X.cell? ⟨U, 1, none⟩ = some (.int .i64 T) ∧ X.cell? ⟨N, k, none⟩ = some (.int .i64 v)) (((try dsimp only); refine (fun hh => ⟨⟨keepc (W := wr) hh c0, keepc (W := wr) hh c1⟩, keepc (W := wr) hh d0, keepc (W := wr) hh d1, keepc (W := wr) hh e0, keepc (W := wr) hh e1, keepc (W := wr) hh b0⟩) ?_; repeat (first | (with_reducible exact Below.refl _ _) | (with_reducible refine bl_alloc ?_ _) | (with_reducible refine Below.drew ?_) | (with_reducible refine bl_drewN ?_ _) | (with_reducible refine bl_set ?_ (by first | omega | (simp; done) | (simp; omega)) _) | (with_reducible refine bl_step ?_ (by assumption)))))
                      (first
                        | (go_at_call 14; (with_reducible refine (HP.out _).mono ?_); rintro e x1 ⟨rfl, hx1⟩)
                        | (go_at_call 14; (with_reducible refine (HQ.out _).mono ?_); rintro e x2 ⟨rfl, hx2⟩))
                    all_goals go_wp2_with fail
                    all_goals go_meet
                    all_goals exact ⟨rfl, hid1 (by repeat (first | (with_reducible exact Below.refl _ _) | (with_reducible refine bl_alloc ?_ _) | (with_reducible refine Below.drew ?_) | (with_reducible refine bl_drewN ?_ _) | (with_reducible refine bl_set ?_ (by first | omega | (simp; done) | (simp; omega)) _) | (with_reducible refine bl_step ?_ (by assumption))))⟩)
                  · (
                    go_region_held3 (fun X => (X.cell? ⟨w.heap.size, 0, none⟩ = some (.int .i64 m) ∧ X.cell? ⟨w.heap.size, 1, none⟩ = some (.int .i64 t)) ∧ X.cell? ⟨R, 0, none⟩ = some (.int .i64 lo) ∧ X.cell? ⟨R, 1, none⟩ = some (.int .i64 hi) ∧ X.cell? ⟨U, 0, none⟩ = some (.int .i64 M) ∧ X.cell? ⟨U, 1, none⟩ = some (.int .i64 T) ∧ X.cell? ⟨N, k, none⟩ = some (.int .i64 v)) (((try dsimp only); refine (fun hh => ⟨⟨keepc (W := wr) hh c0, keepc (W := wr) hh c1⟩, keepc (W := wr) hh d0, keepc (W := wr) hh d1, keepc (W := wr) hh e0, keepc (W := wr) hh e1, keepc (W := wr) hh b0⟩) ?_; repeat (first | (with_reducible exact Below.refl _ _) | (with_reducible refine bl_alloc ?_ _) | (with_reducible refine Below.drew ?_) | (with_reducible refine bl_drewN ?_ _) | (with_reducible refine bl_set ?_ (by first | omega | (simp; done) | (simp; omega)) _) | (with_reducible refine bl_step ?_ (by assumption)))))
                      (first
                        | (go_at_call 14; (with_reducible refine (HP.out _).mono ?_); rintro e x1 ⟨rfl, hx1⟩)
                        | (go_at_call 14; (with_reducible refine (HQ.out _).mono ?_); rintro e x2 ⟨rfl, hx2⟩))
                    all_goals go_wp2_with fail
                    all_goals go_meet
                    all_goals exact ⟨rfl, hid1 (by repeat (first | (with_reducible exact Below.refl _ _) | (with_reducible refine bl_alloc ?_ _) | (with_reducible refine Below.drew ?_) | (with_reducible refine bl_drewN ?_ _) | (with_reducible refine bl_set ?_ (by first | omega | (simp; done) | (simp; omega)) _) | (with_reducible refine bl_step ?_ (by assumption))))⟩)
                · have v2' : decide (v ≤ hi) = false := decide_eq_false v2
                  clear v2
                  go_quiet (fail)
                  all_goals go_wp2_with fail
                  all_goals go_meet
                  all_goals exact ⟨rfl, hid1 (by repeat (first | (with_reducible exact Below.refl _ _) | (with_reducible refine bl_alloc ?_ _) | (with_reducible refine Below.drew ?_) | (with_reducible refine bl_drewN ?_ _) | (with_reducible refine bl_set ?_ (by first | omega | (simp; done) | (simp; omega)) _) | (with_reducible refine bl_step ?_ (by assumption))))⟩
              · have v1' : decide (lo ≤ v) = false := decide_eq_false v1
                clear v1
                go_quiet (fail)
                all_goals go_wp2_with fail
                all_goals go_meet
                all_goals exact ⟨rfl, hid1 (by repeat (first | (with_reducible exact Below.refl _ _) | (with_reducible refine bl_alloc ?_ _) | (with_reducible refine Below.drew ?_) | (with_reducible refine bl_drewN ?_ _) | (with_reducible refine bl_set ?_ (by first | omega | (simp; done) | (simp; omega)) _) | (with_reducible refine bl_step ?_ (by assumption))))⟩
            case rest =>
              obtain ⟨rfl, HY⟩ := hcut
              have BY := bl_step HB.out HY.out
              replace HC := hid1 (HC.out.keep HY.out)
              replace HR := hid1 (HR.out.keep HY.out)
              replace HU := hid1 (HU.out.keep HY.out)
              replace HN := hid1 (HN.out.keep HY.out)
              clear HY HB b0 c0 c1 d0 d1 e0 e1
              go_wp2_with fail
              exact ⟨⟨k + 1, by omega, by go_num, HC, HR, HU, HN, BY⟩, by simp [intOf]; omega⟩
          · go_wp2_with fail
            go_ret
            exact ⟨rfl, hnx⟩
theorem foldTrimmed_any (m t a b x : Int) (w : World) :
    Calls Try.prog 4 #[th m t, .int .i64 a, .int .i64 b, .int .i64 x] w fun x w' => x = .returned (.bool true) ∧ Below w.heap.size w w' := by
  have key : ∀ lo hi : Int, Sm lo → Sm hi → lo ≤ hi → Hid ((suN b < suN a ∧ lo = suN b ∧ hi = suN a) ∨ (suN a ≤ suN b ∧ lo = suN a ∧ hi = suN b)) →
      Calls Try.prog 4 #[th m t, .int .i64 a, .int .i64 b, .int .i64 x] w fun x w' => x = .returned (.bool true) ∧ Below w.heap.size w w' := by
    intro lo hi hl hh hlh HO
    have HK := hid1 (fck_any m t)
    have HT := hid1 (trim_any m t lo hi)
    by_cases h : okT m t
    · rw [ckT_ok h] at HK
      obtain ⟨e1, e2, e3⟩ := tr_in h hl.1 hh.2 hlh
      rw [e1, e2, e3] at HT
      have h2 := st_ok2 lo hi h
      have HT2 := hid1 (trim_any (stM m t lo hi) (stT m t lo hi) lo hi)
      obtain ⟨f1, f2, f3⟩ := tr_in h2 hl.1 hh.2 hlh
      rw [f1, f2, f3, (st_stay m t lo hi).1, (st_stay m t lo hi).2] at HT2
      have HK2 := hid1 (fck_any (stM m t lo hi) (stT m t lo hi))
      rw [ckT_ok h2] at HK2
      refine foldTrimmed_ok m t a b x _ _ _ lo hi _ _ _ _ (ok_bd h).1 (ok_bd h).2 (hid1 (sum_any a)) (hid1 (sum_any b)) (hid1 (sum_any x)) HO HK HT HT2 HK2 (hid1 (plus_any m t lo)) (hid1 (plus_any m t hi)) (hid1 ?_) (hid1 fun v v1 v2 => st_says (ok_form h) v v1 v2) w
      by_cases e : plT m t lo = plT m t hi
      · cases e4 : plT m t lo
        · have e5 := e.symm.trans e4
          exact .inl ⟨rfl, e5, (st_no e4 e5).1, (st_no e4 e5).2⟩
        · have e5 := e.symm.trans e4
          exact .inr (.inl ⟨rfl, e5, (st_yes e4 e5).1, (st_yes e4 e5).2⟩)
      · obtain ⟨k3, k4⟩ := st_mode h e
        exact .inr (.inr ⟨e, by unfold stM; rw [if_neg e], by unfold stT; rw [if_neg e], by simpa using k3, by simpa using k4⟩)
    · rw [ckT_no h] at HK
      have e : trE m t lo hi = 191 := by unfold trE; rw [if_neg h]
      have e1 : trM m t lo hi = 0 := by unfold trM; rw [e]; rfl
      have e2 : trT m t lo hi = 0 := by unfold trT; rw [e]; rfl
      rw [e, e1, e2] at HT
      exact foldTrimmed_no m t a b x _ _ lo hi (hid1 (sum_any a)) (hid1 (sum_any b)) HO HK HT w
  by_cases o1 : suN b < suN a
  · exact key _ _ (su_sm b) (su_sm a) (by omega) (hid1 (.inl ⟨o1, rfl, rfl⟩))
  · exact key _ _ (su_sm a) (su_sm b) (by omega) (hid1 (.inr ⟨by omega, rfl, rfl⟩))
end Go.Proofs.Ytffhbfdbahdhoaa
