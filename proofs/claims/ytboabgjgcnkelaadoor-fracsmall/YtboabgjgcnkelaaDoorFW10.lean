/- FRACSMALL, WALKED. -/
import Derived.Test.YtboabgjgcnkelaaDoorFW9
namespace Go.Proofs.YtboabgjgcnkelaaDoor
open Go.RowKit Go.Shelf
attribute [local go_sem ↓] Go.wp_at_zero Go.wp_at_succ

set_option maxHeartbeats 1600000 in
set_option maxRecDepth 100000 in
theorem fsmall_core (gn gd bn bd mn md sn sd x a b c d e f g h s y k1 k2 k3 k4 k5 k6 k7 k8 v : Int) (p : Bool)
    (HA : Hid (∀ w : World, Calls Tryd.prog 12 #[fr gn gd] w fun e w' => e = .returned (fr a b) ∧ Below w.heap.size w w'))
    (HB : Hid (∀ w : World, Calls Tryd.prog 12 #[fr bn bd] w fun e w' => e = .returned (fr c d) ∧ Below w.heap.size w w'))
    (HC : Hid (∀ w : World, Calls Tryd.prog 12 #[fr mn md] w fun e' w' => e' = .returned (fr e f) ∧ Below w.heap.size w w'))
    (HD : Hid (∀ w : World, Calls Tryd.prog 12 #[fr sn sd] w fun e w' => e = .returned (fr g h) ∧ Below w.heap.size w w'))
    (HP : Hid (∀ w : World, Calls Tryd.prog 13 #[nm a b c d e f s h, .int .i64 y] w fun e w' => e = .returned (.tuple #[.bool p, .int .i64 0]) ∧ Below w.heap.size w w'))
    (g1 : -999 ≤ g) (g2 : g ≤ 999) (hs : s = (if g < 0 then -g else g) + 1) (hy : x.tmod 10000 = y)
    (e1 : wrap64 (y * f) = k1) (e2 : wrap64 (k1 - e) = k2) (e3 : wrap64 (a * k2) = k3) (e4 : wrap64 (k3 * h) = k4) (e5 : wrap64 (k4 * d) = k5)
    (e6 : wrap64 (c * b) = k6) (e7 : wrap64 (k6 * f) = k7) (e8 : wrap64 (k7 * s) = k8) (e9 : wrap64 (k5 + k8) = v) (hp : p = decide (0 ≤ v))
    (w : World) (L : LaidP w) :
    Calls Tryd.prog 4 #[nm gn gd bn bd mn md sn sd, .int .i64 x] w fun e w' => e = .returned (.bool true) ∧ Below w.heap.size w w' := by
  have HL := hid1 L
  clear L
  have HE := hid1 (And.intro e1 (And.intro e2 (And.intro e3 (And.intro e4 (And.intro e5 (And.intro e6 (And.intro e7 (And.intro e8 e9))))))))
  clear e1 e2 e3 e4 e5 e6 e7 e8 e9
  have HS := hid1 hs
  have HQ := hid1 hp
  clear hs hp
  go_enter Tryd.func4, Tryd.ntmps4
  go_wp2_with fail
  refine gen_calls (fun W' => Below w.heap.size w W' ∧ Hid (Nm W' w.heap.size gn gd bn bd mn md sn sd)) ⟨by repeat (first | exact Below.refl _ _ | refine bl_alloc ?_ _ | refine Below.drew ?_ | refine bl_drewN ?_ _ | refine bl_set ?_ (by omega) _ | refine bl_step ?_ (by assumption)), hid1 (ny_new rfl).1⟩ ?_
  rintro W ⟨B0, HM⟩
  refine (fbegun_any _ (HL.out.on B0)).mono ?_
  rintro e' w1 ⟨rfl, hb1⟩
  replace HM := hid1 (HM.out.keep hb1)
  have B1 : Below w.heap.size w w1 := by repeat (first | exact Below.refl _ _ | refine bl_alloc ?_ _ | refine Below.drew ?_ | refine bl_drewN ?_ _ | refine bl_set ?_ (by omega) _ | refine bl_step ?_ (by assumption))
  clear hb1 B0
  have zB := B1.size
  go_upto_region 4 with fail
  go_cut [6] (fun s6 wx => ∃ M, w.heap.size ≤ M ∧ s6 = .pointer (some ⟨M, 0, none⟩) ∧ Hid (Ny wx M a b c d e f g h) ∧ Below w.heap.size w wx)
  case first =>
    obtain ⟨m0, m1, m2, m3, m4, m5, m6, m7⟩ := HM.out
    go_region_held3 (fun X => X.cell? ⟨w.heap.size, 0, none⟩ = some (.int .i64 gn) ∧ X.cell? ⟨w.heap.size, 1, none⟩ = some (.int .i64 gd) ∧ X.cell? ⟨w.heap.size, 2, none⟩ = some (.int .i64 bn) ∧ X.cell? ⟨w.heap.size, 3, none⟩ = some (.int .i64 bd) ∧ X.cell? ⟨w.heap.size, 4, none⟩ = some (.int .i64 mn) ∧ X.cell? ⟨w.heap.size, 5, none⟩ = some (.int .i64 md) ∧ X.cell? ⟨w.heap.size, 6, none⟩ = some (.int .i64 sn) ∧ X.cell? ⟨w.heap.size, 7, none⟩ = some (.int .i64 sd)) (((try dsimp only); (with_reducible refine nm8 HM.out ?_); repeat (first | (with_reducible exact Below.refl _ _) | (with_reducible refine bl_alloc ?_ _) | (with_reducible refine Below.drew ?_) | (with_reducible refine bl_drewN ?_ _) | (with_reducible refine bl_set ?_ (by omega) _) | (with_reducible refine bl_step ?_ (by assumption)))))
      (first
        | (go_at_call 12; (with_reducible refine (HA.out _).mono ?_); rintro e' wa ⟨rfl, hba⟩; have za : w1.heap.size ≤ wa.heap.size := Nat.le_trans (by first | exact Nat.le_refl _ | simp) hba.size; (first | (with_reducible have NA : Hid (Ny wa w1.heap.size 0 0 0 0 0 0 0 0) := hid1 (ny_n1 (W := w1) hba)) | (with_reducible have NA : Hid (Ny wa w1.heap.size 0 0 0 0 0 0 0 0) := hid1 (ny_n2 (W := w1) hba)) | (with_reducible have NA : Hid (Ny wa w1.heap.size 0 0 0 0 0 0 0 0) := hid1 (ny_n0 (W := w1) hba)) | skip))
        | (go_at_call 12; (with_reducible refine (HB.out _).mono ?_); rintro e' wb ⟨rfl, hbb⟩; have zb : wa.heap.size ≤ wb.heap.size := Nat.le_trans (by first | exact Nat.le_refl _ | simp) hbb.size; (first | (with_reducible have NB : Hid (Ny wb wa.heap.size 0 0 0 0 0 0 0 0) := hid1 (ny_n0 (W := wa) hbb)) | (with_reducible have NB := hid1 (NA.out.keep hbb)) | skip))
        | (go_at_call 12; (with_reducible refine (HC.out _).mono ?_); rintro e' wc ⟨rfl, hbc⟩; have zc : wb.heap.size ≤ wc.heap.size := Nat.le_trans (by first | exact Nat.le_refl _ | simp) hbc.size; (first | (with_reducible have NC : Hid (Ny wc wb.heap.size 0 0 0 0 0 0 0 0) := hid1 (ny_n0 (W := wb) hbc)) | (with_reducible have NC := hid1 (NB.out.keep hbc)) | skip))
        | (go_at_call 12; (with_reducible refine (HD.out _).mono ?_); rintro e' wd ⟨rfl, hbd⟩; have zd : wc.heap.size ≤ wd.heap.size := Nat.le_trans (by first | exact Nat.le_refl _ | simp) hbd.size; (first | ((with_reducible have ND : Hid (Ny wd wc.heap.size 0 0 0 0 0 0 0 0) := hid1 (ny_n0 (W := wc) hbd)); obtain ⟨⟨n0, n1, n2, n3, n4, n5, n6, n7⟩, nf⟩ := ND.out; have zn := lt_of_cell n0) | ((with_reducible have ND := hid1 (NC.out.keep hbd)); obtain ⟨⟨n0, n1, n2, n3, n4, n5, n6, n7⟩, nf⟩ := ND.out; have zn := lt_of_cell n0) | skip)))
    all_goals go_wp2_with fail
    all_goals go_meet
    · exact ⟨_, by omega, rfl, hid1 (ny_new rfl), by repeat (first | (with_reducible exact Below.refl _ _) | (with_reducible refine bl_alloc ?_ _) | (with_reducible refine Below.drew ?_) | (with_reducible refine bl_drewN ?_ _) | (with_reducible refine bl_set ?_ (by omega) _) | (with_reducible refine bl_step ?_ (by assumption)))⟩
    · exact ⟨_, by omega, rfl, hid1 (ny_set ND.out), by repeat (first | (with_reducible exact Below.refl _ _) | (with_reducible refine bl_alloc ?_ _) | (with_reducible refine Below.drew ?_) | (with_reducible refine bl_drewN ?_ _) | (with_reducible refine bl_set ?_ (by omega) _) | (with_reducible refine bl_step ?_ (by assumption)))⟩
    · exact ⟨_, by omega, rfl, hid1 (ny_set ND.out), by repeat (first | (with_reducible exact Below.refl _ _) | (with_reducible refine bl_alloc ?_ _) | (with_reducible refine Below.drew ?_) | (with_reducible refine bl_drewN ?_ _) | (with_reducible refine bl_set ?_ (by omega) _) | (with_reducible refine bl_step ?_ (by assumption)))⟩
    · exact ⟨_, by omega, rfl, hid1 (ny_set ND.out), by repeat (first | (with_reducible exact Below.refl _ _) | (with_reducible refine bl_alloc ?_ _) | (with_reducible refine Below.drew ?_) | (with_reducible refine bl_drewN ?_ _) | (with_reducible refine bl_set ?_ (by omega) _) | (with_reducible refine bl_step ?_ (by assumption)))⟩
    · exact ⟨_, by omega, rfl, hid1 (ny_set ND.out), by repeat (first | (with_reducible exact Below.refl _ _) | (with_reducible refine bl_alloc ?_ _) | (with_reducible refine Below.drew ?_) | (with_reducible refine bl_drewN ?_ _) | (with_reducible refine bl_set ?_ (by omega) _) | (with_reducible refine bl_step ?_ (by assumption)))⟩
  case rest =>
    obtain ⟨M, zM, rfl, HN, BC⟩ := hcut
    rename World => V
    clear B1 HM
    obtain ⟨e1, e2, e3, e4, e5, e6, e7, e8, e9⟩ := HE.out
    by_cases hg : g < 0
    · have hs : s = -g + 1 := by have := HS.out; rw [if_pos hg] at this; exact this
      subst hs
      clear HS
      obtain ⟨⟨n0, n1, n2, n3, n4, n5, n6, n7⟩, nf⟩ := HN.out
      have z := lt_of_cell n0
      have f6 := nf 6
      clear nf
      go_wp2_with fail
      refine gen_calls (fun W' => Below w.heap.size w W' ∧ Hid (Ny W' M a b c d e f (-g + 1) h)) ⟨by repeat (first | (with_reducible exact Below.refl _ _) | (with_reducible refine bl_alloc ?_ _) | (with_reducible refine Below.drew ?_) | (with_reducible refine bl_drewN ?_ _) | (with_reducible refine bl_set ?_ (by omega) _) | (with_reducible refine bl_step ?_ (by assumption))), hid1 (by exact ny_set6 (ny_set6 HN.out))⟩ ?_
      clear n0 n1 n2 n3 n4 n5 n6 n7 z f6 HN BC
      rintro W2 ⟨B2, HN⟩
      with_reducible refine (HP.out _).mono ?_
      rintro e' w3 ⟨rfl, hb3⟩
      replace HN := hid1 (HN.out.keep hb3)
      have B3 : Below w.heap.size w w3 := by repeat (first | (with_reducible exact Below.refl _ _) | (with_reducible refine bl_alloc ?_ _) | (with_reducible refine Below.drew ?_) | (with_reducible refine bl_drewN ?_ _) | (with_reducible refine bl_set ?_ (by omega) _) | (with_reducible refine bl_step ?_ (by assumption)))
      clear hb3 B2
      obtain ⟨⟨n0, n1, n2, n3, n4, n5, n6, n7⟩, nf⟩ := HN.out
      go_wp2
      go_ret
      exact ⟨by rw [HQ.out]; first | rfl | (simp; done), B3⟩
    · have hs : s = g + 1 := by have := HS.out; rw [if_neg hg] at this; exact this
      subst hs
      clear HS
      obtain ⟨⟨n0, n1, n2, n3, n4, n5, n6, n7⟩, nf⟩ := HN.out
      have z := lt_of_cell n0
      have f6 := nf 6
      clear nf
      go_wp2_with fail
      refine gen_calls (fun W' => Below w.heap.size w W' ∧ Hid (Ny W' M a b c d e f (g + 1) h)) ⟨by repeat (first | (with_reducible exact Below.refl _ _) | (with_reducible refine bl_alloc ?_ _) | (with_reducible refine Below.drew ?_) | (with_reducible refine bl_drewN ?_ _) | (with_reducible refine bl_set ?_ (by omega) _) | (with_reducible refine bl_step ?_ (by assumption))), hid1 (by exact ny_set6 HN.out)⟩ ?_
      clear n0 n1 n2 n3 n4 n5 n6 n7 z f6 HN BC
      rintro W2 ⟨B2, HN⟩
      with_reducible refine (HP.out _).mono ?_
      rintro e' w3 ⟨rfl, hb3⟩
      replace HN := hid1 (HN.out.keep hb3)
      have B3 : Below w.heap.size w w3 := by repeat (first | (with_reducible exact Below.refl _ _) | (with_reducible refine bl_alloc ?_ _) | (with_reducible refine Below.drew ?_) | (with_reducible refine bl_drewN ?_ _) | (with_reducible refine bl_set ?_ (by omega) _) | (with_reducible refine bl_step ?_ (by assumption)))
      clear hb3 B2
      obtain ⟨⟨n0, n1, n2, n3, n4, n5, n6, n7⟩, nf⟩ := HN.out
      go_wp2
      go_ret
      exact ⟨by rw [HQ.out]; first | rfl | (simp; done), B3⟩
end Go.Proofs.YtboabgjgcnkelaaDoor
