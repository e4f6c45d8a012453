/- A NORM THAT MAY BE, MADE OF ANY. -/
import Derived.Test.YtboabgjgcnkelaaDoorFW9
namespace Go.Proofs.YtboabgjgcnkelaaDoor
open Go.RowKit Go.Shelf
attribute [local go_sem ↓] Go.wp_at_zero Go.wp_at_succ

def tmS (g : Int) : Int := if g < 0 then -g else if g = 0 then 1 else g
set_option maxHeartbeats 1600000 in
set_option maxRecDepth 100000 in
theorem tamed_core (gn gd bn bd mn md sn sd a b c d e f g h : Int) (HA : Hid (∀ w : World, Calls Tryd.prog 10 #[fr gn gd] w fun e' w' => e' = .returned (fr a b) ∧ Below w.heap.size w w')) (HB : Hid (∀ w : World, Calls Tryd.prog 10 #[fr bn bd] w fun e' w' => e' = .returned (fr c d) ∧ Below w.heap.size w w')) (HC : Hid (∀ w : World, Calls Tryd.prog 10 #[fr mn md] w fun e' w' => e' = .returned (fr e f) ∧ Below w.heap.size w w')) (HD : Hid (∀ w : World, Calls Tryd.prog 10 #[fr sn sd] w fun e' w' => e' = .returned (fr g h) ∧ Below w.heap.size w w'))
    (g1 : -2147483647 ≤ g) (g2 : g ≤ 2147483647) (w : World) :
    Calls Tryd.prog 16 #[nm gn gd bn bd mn md sn sd] w fun e' w' => e' = .returned (nm a b c d e f (tmS g) h) ∧ Below w.heap.size w w' := by
  go_enter Tryd.func16, Tryd.ntmps16
  go_upto_region 1 with fail
  refine gen_world (fun W' => Below w.heap.size w W' ∧ Hid (Nm W' w.heap.size gn gd bn bd mn md sn sd) ∧ Hid (Ny W' (w.heap.size + 1) 0 0 0 0 0 0 0 0)) ⟨by repeat (first | (with_reducible exact Below.refl _ _) | (with_reducible refine bl_alloc ?_ _) | (with_reducible refine Below.drew ?_) | (with_reducible refine bl_drewN ?_ _) | (with_reducible refine bl_set ?_ (by omega) _) | (with_reducible refine bl_step ?_ (by assumption))), hid1 (Nm.keep (ny_new rfl).1 (bl_alloc (Below.refl _ _) _)), hid1 (ny_new (by simp))⟩ ?_
  rintro w1 ⟨B1, HM, HR⟩
  have zB := B1.size
  have z1 := lt_of_cell HR.out.1.1
  go_cut [3] (fun s3 wx => ∃ M, w1.heap.size ≤ M ∧ s3 = .pointer (some ⟨M, 0, none⟩) ∧ Hid (Ny wx M a b c d e f g h) ∧ Hid (Ny wx (w.heap.size + 1) 0 0 0 0 0 0 0 0) ∧ Below w.heap.size w wx)
  case first =>
    obtain ⟨m0, m1, m2, m3, m4, m5, m6, m7⟩ := HM.out
    go_region_held3 (fun X => X.cell? ⟨w.heap.size, 0, none⟩ = some (.int .i64 gn) ∧ X.cell? ⟨w.heap.size, 1, none⟩ = some (.int .i64 gd) ∧ X.cell? ⟨w.heap.size, 2, none⟩ = some (.int .i64 bn) ∧ X.cell? ⟨w.heap.size, 3, none⟩ = some (.int .i64 bd) ∧ X.cell? ⟨w.heap.size, 4, none⟩ = some (.int .i64 mn) ∧ X.cell? ⟨w.heap.size, 5, none⟩ = some (.int .i64 md) ∧ X.cell? ⟨w.heap.size, 6, none⟩ = some (.int .i64 sn) ∧ X.cell? ⟨w.heap.size, 7, none⟩ = some (.int .i64 sd)) (((try dsimp only); (with_reducible refine nm8 HM.out ?_); repeat (first | (with_reducible exact Below.refl _ _) | (with_reducible refine bl_alloc ?_ _) | (with_reducible refine Below.drew ?_) | (with_reducible refine bl_drewN ?_ _) | (with_reducible refine bl_set ?_ (by omega) _) | (with_reducible refine bl_step ?_ (by assumption)))))
      (first
        | (go_at_call 10; (with_reducible refine (HA.out _).mono ?_); rintro e' wa ⟨rfl, hba⟩; have za : w1.heap.size ≤ wa.heap.size := Nat.le_trans (by first | exact Nat.le_refl _ | simp) hba.size; (first | (with_reducible have NA : Hid (Ny wa w1.heap.size 0 0 0 0 0 0 0 0) := hid1 (ny_n1 (W := w1) hba)) | (with_reducible have NA : Hid (Ny wa w1.heap.size 0 0 0 0 0 0 0 0) := hid1 (ny_n2 (W := w1) hba)) | (with_reducible have NA : Hid (Ny wa w1.heap.size 0 0 0 0 0 0 0 0) := hid1 (ny_n0 (W := w1) hba)) | skip))
        | (go_at_call 10; (with_reducible refine (HB.out _).mono ?_); rintro e' wb ⟨rfl, hbb⟩; have zb : wa.heap.size ≤ wb.heap.size := Nat.le_trans (by first | exact Nat.le_refl _ | simp) hbb.size; (first | (with_reducible have NB : Hid (Ny wb wa.heap.size 0 0 0 0 0 0 0 0) := hid1 (ny_n0 (W := wa) hbb)) | (with_reducible have NB := hid1 (NA.out.keep hbb)) | skip))
        | (go_at_call 10; (with_reducible refine (HC.out _).mono ?_); rintro e' wc ⟨rfl, hbc⟩; have zc : wb.heap.size ≤ wc.heap.size := Nat.le_trans (by first | exact Nat.le_refl _ | simp) hbc.size; (first | (with_reducible have NC : Hid (Ny wc wb.heap.size 0 0 0 0 0 0 0 0) := hid1 (ny_n0 (W := wb) hbc)) | (with_reducible have NC := hid1 (NB.out.keep hbc)) | skip))
        | (go_at_call 10; (with_reducible refine (HD.out _).mono ?_); rintro e' wd ⟨rfl, hbd⟩; have zd : wc.heap.size ≤ wd.heap.size := Nat.le_trans (by first | exact Nat.le_refl _ | simp) hbd.size; (first | ((with_reducible have ND : Hid (Ny wd wc.heap.size 0 0 0 0 0 0 0 0) := hid1 (ny_n0 (W := wc) hbd)); obtain ⟨⟨n0, n1, n2, n3, n4, n5, n6, n7⟩, nf⟩ := ND.out; have zn := lt_of_cell n0) | ((with_reducible have ND := hid1 (NC.out.keep hbd)); obtain ⟨⟨n0, n1, n2, n3, n4, n5, n6, n7⟩, nf⟩ := ND.out; have zn := lt_of_cell n0) | skip)))
    all_goals go_wp2_with fail
    all_goals go_meet
    · exact ⟨_, by omega, rfl, hid1 (ny_new rfl), hid1 (HR.out.keep (by repeat (first | (with_reducible exact Below.refl _ _) | (with_reducible refine bl_alloc ?_ _) | (with_reducible refine Below.drew ?_) | (with_reducible refine bl_drewN ?_ _) | (with_reducible refine bl_set ?_ (by omega) _) | (with_reducible refine bl_step ?_ (by assumption))))), by repeat (first | (with_reducible exact Below.refl _ _) | (with_reducible refine bl_alloc ?_ _) | (with_reducible refine Below.drew ?_) | (with_reducible refine bl_drewN ?_ _) | (with_reducible refine bl_set ?_ (by omega) _) | (with_reducible refine bl_step ?_ (by assumption)))⟩
    · exact ⟨_, by omega, rfl, hid1 (ny_set ND.out), hid1 (HR.out.keep (by repeat (first | (with_reducible exact Below.refl _ _) | (with_reducible refine bl_alloc ?_ _) | (with_reducible refine Below.drew ?_) | (with_reducible refine bl_drewN ?_ _) | (with_reducible refine bl_set ?_ (by omega) _) | (with_reducible refine bl_step ?_ (by assumption))))), by repeat (first | (with_reducible exact Below.refl _ _) | (with_reducible refine bl_alloc ?_ _) | (with_reducible refine Below.drew ?_) | (with_reducible refine bl_drewN ?_ _) | (with_reducible refine bl_set ?_ (by omega) _) | (with_reducible refine bl_step ?_ (by assumption)))⟩
    · exact ⟨_, by omega, rfl, hid1 (ny_set ND.out), hid1 (HR.out.keep (by repeat (first | (with_reducible exact Below.refl _ _) | (with_reducible refine bl_alloc ?_ _) | (with_reducible refine Below.drew ?_) | (with_reducible refine bl_drewN ?_ _) | (with_reducible refine bl_set ?_ (by omega) _) | (with_reducible refine bl_step ?_ (by assumption))))), by repeat (first | (with_reducible exact Below.refl _ _) | (with_reducible refine bl_alloc ?_ _) | (with_reducible refine Below.drew ?_) | (with_reducible refine bl_drewN ?_ _) | (with_reducible refine bl_set ?_ (by omega) _) | (with_reducible refine bl_step ?_ (by assumption)))⟩
    · exact ⟨_, by omega, rfl, hid1 (ny_set ND.out), hid1 (HR.out.keep (by repeat (first | (with_reducible exact Below.refl _ _) | (with_reducible refine bl_alloc ?_ _) | (with_reducible refine Below.drew ?_) | (with_reducible refine bl_drewN ?_ _) | (with_reducible refine bl_set ?_ (by omega) _) | (with_reducible refine bl_step ?_ (by assumption))))), by repeat (first | (with_reducible exact Below.refl _ _) | (with_reducible refine bl_alloc ?_ _) | (with_reducible refine Below.drew ?_) | (with_reducible refine bl_drewN ?_ _) | (with_reducible refine bl_set ?_ (by omega) _) | (with_reducible refine bl_step ?_ (by assumption)))⟩
    · exact ⟨_, by omega, rfl, hid1 (ny_set ND.out), hid1 (HR.out.keep (by repeat (first | (with_reducible exact Below.refl _ _) | (with_reducible refine bl_alloc ?_ _) | (with_reducible refine Below.drew ?_) | (with_reducible refine bl_drewN ?_ _) | (with_reducible refine bl_set ?_ (by omega) _) | (with_reducible refine bl_step ?_ (by assumption))))), by repeat (first | (with_reducible exact Below.refl _ _) | (with_reducible refine bl_alloc ?_ _) | (with_reducible refine Below.drew ?_) | (with_reducible refine bl_drewN ?_ _) | (with_reducible refine bl_set ?_ (by omega) _) | (with_reducible refine bl_step ?_ (by assumption)))⟩
  case rest =>
    clear HR
    obtain ⟨M, zM, rfl, HN, HR, BC⟩ := hcut
    rename World => V
    clear B1 HM
    have nMR : ¬ M = w.heap.size + 1 := by omega
    have nRM : ¬ w.heap.size + 1 = M := by omega
    have zM' : w.heap.size ≤ M := by omega
    by_cases hg : g < 0
    · have hS : tmS g = -g := by unfold tmS; rw [if_pos hg]
      have hg0 : ¬ -g = 0 := by omega
      obtain ⟨⟨n0, n1, n2, n3, n4, n5, n6, n7⟩, nf⟩ := HN.out
      obtain ⟨⟨y0, y1, y2, y3, y4, y5, y6, y7⟩, yf⟩ := HR.out
      have z := lt_of_cell n0
      have zy := lt_of_cell y0
      go_wp2
      simp [bodyPost, results, Tryd.results16, go_sem, *]
      repeat (first | (with_reducible exact Below.refl _ _) | (with_reducible refine bl_alloc ?_ _) | (with_reducible refine Below.drew ?_) | (with_reducible refine bl_drewN ?_ _) | (with_reducible refine bl_set ?_ (by omega) _) | (with_reducible refine bl_step ?_ (by assumption)))
    · by_cases hg0 : g = 0
      · subst hg0
        have hS : tmS 0 = 1 := by unfold tmS; simp
        obtain ⟨⟨n0, n1, n2, n3, n4, n5, n6, n7⟩, nf⟩ := HN.out
        obtain ⟨⟨y0, y1, y2, y3, y4, y5, y6, y7⟩, yf⟩ := HR.out
        have z := lt_of_cell n0
        have zy := lt_of_cell y0
        go_wp2
        simp [bodyPost, results, Tryd.results16, go_sem, *]
        repeat (first | (with_reducible exact Below.refl _ _) | (with_reducible refine bl_alloc ?_ _) | (with_reducible refine Below.drew ?_) | (with_reducible refine bl_drewN ?_ _) | (with_reducible refine bl_set ?_ (by omega) _) | (with_reducible refine bl_step ?_ (by assumption)))
      · have hS : tmS g = g := by unfold tmS; rw [if_neg hg, if_neg hg0]
        obtain ⟨⟨n0, n1, n2, n3, n4, n5, n6, n7⟩, nf⟩ := HN.out
        obtain ⟨⟨y0, y1, y2, y3, y4, y5, y6, y7⟩, yf⟩ := HR.out
        have z := lt_of_cell n0
        have zy := lt_of_cell y0
        go_wp2
        simp [bodyPost, results, Tryd.results16, go_sem, *]
        repeat (first | (with_reducible exact Below.refl _ _) | (with_reducible refine bl_alloc ?_ _) | (with_reducible refine Below.drew ?_) | (with_reducible refine bl_drewN ?_ _) | (with_reducible refine bl_set ?_ (by omega) _) | (with_reducible refine bl_step ?_ (by assumption)))
theorem tamed_any (gn gd bn bd mn md sn sd : Int) (w : World) :
    Calls Tryd.prog 16 #[nm gn gd bn bd mn md sn sd] w fun e' w' => e' = .returned (nm (tmN gn) (tmD gd) (tmN bn) (tmD bd) (tmN mn) (tmD md) (tmS (tmN sn)) (tmD sd)) ∧ Below w.heap.size w w' :=
  tamed_core gn gd bn bd mn md sn sd _ _ _ _ _ _ _ _ (hid1 (tame_any gn gd)) (hid1 (tame_any bn bd)) (hid1 (tame_any mn md)) (hid1 (tame_any sn sd)) (tame_fr sn sd).2.2.1 (tame_fr sn sd).2.2.2 w
theorem sum_any (x : Int) (w : World) :
    Calls Tryd.prog 17 #[.int .i64 x] w fun e w' => e = .returned (.int .i64 (tmN x)) ∧ w' = w := by
  have h1 := tmod_rng x (k := 2147483648) (by decide)
  unfold tmN
  obtain ⟨a, ea⟩ : ∃ a, x.tmod 2147483648 = a := ⟨_, rfl⟩
  rw [ea] at h1 ⊢
  obtain ⟨h1a, h1b⟩ := h1
  go_enter Tryd.func17, Tryd.ntmps17
  go_wp2
  go_ret
  exact ⟨rfl, rfl⟩
set_option maxRecDepth 100000 in
theorem lplus_any (gn gd bn bd mn md sn sd x : Int) (h : noE gn gd bn bd mn md sn sd = 0) (hx : Sm x) (w : World) :
    Calls Tryd.prog 18 #[nm gn gd bn bd mn md sn sd, .int .i64 x] w fun e w' => e = .returned (.tuple #[.bool (decide (0 ≤ nv gn gd bn bd mn md sn sd x)), .bool true]) ∧ Below w.heap.size w w' := by
  have HP := hid1 (plus_ok4 gn gd bn bd mn md sn sd x h hx)
  clear h hx
  obtain ⟨p, ep⟩ : ∃ p, decide (0 ≤ nv gn gd bn bd mn md sn sd x) = p := ⟨_, rfl⟩
  rw [ep] at HP ⊢
  clear ep
  go_enter Tryd.func18, Tryd.ntmps18
  go_wp2_with fail
  refine (HP.out _).mono ?_
  rintro e w1 ⟨rfl, hb1⟩
  go_wp2
  go_ret2
  refine ⟨rfl, ?_⟩
  repeat (first | exact Below.refl _ _ | refine bl_alloc ?_ _ | refine Below.drew ?_ | refine bl_drewN ?_ _ | refine bl_set ?_ (by omega) _ | refine bl_step ?_ (by assumption))
end Go.Proofs.YtboabgjgcnkelaaDoor
