import Derived.Test.YteonglbplbaeaaaDoorW14
import Derived.Test.YteonglbplbaeaaaDoorM9
namespace Go.Proofs.YteonglbplbaeaaaDoor
open Go.RowKit Go.Shelf
attribute [local go_sem ↓] Go.wp_at_zero Go.wp_at_succ

set_option maxHeartbeats 4000000 in
set_option maxRecDepth 100000 in
theorem order_walk (x y z : Int) (hx : Rng x) (hy : Rng y) (hz : Rng z) (w : World) (L : Laid w) :
    Calls Tryd.prog 4 #[wv x, wv y, wv z] w fun e w' => e = .returned (.bool true) ∧ Below w.heap.size w w' := by
  have HL := hid1 L
  clear L
  go_enter Tryd.func4, Tryd.ntmps4
  go_wp2_with fail
  refine gen_calls (fun W' => Below w.heap.size w W' ∧ W'.cell? ⟨w.heap.size, 0, none⟩ = some (.int .i64 (hiOf x)) ∧ W'.cell? ⟨w.heap.size, 1, none⟩ = some (.int .u64 (loOf x)) ∧ W'.cell? ⟨w.heap.size + 1, 0, none⟩ = some (.int .i64 (hiOf y)) ∧ W'.cell? ⟨w.heap.size + 1, 1, none⟩ = some (.int .u64 (loOf y)) ∧ W'.cell? ⟨w.heap.size + 1 + 1, 0, none⟩ = some (.int .i64 (hiOf z)) ∧ W'.cell? ⟨w.heap.size + 1 + 1, 1, none⟩ = some (.int .u64 (loOf z))) ⟨by repeat (first | exact Below.refl _ _ | refine bl_alloc ?_ _ | refine Below.drew ?_ | refine bl_drewN ?_ _ | refine bl_set ?_ (by omega) _ | refine bl_step ?_ (by assumption)), by simp [go_sem], by simp [go_sem], by simp [go_sem], by simp [go_sem], by simp [go_sem], by simp [go_sem]⟩ ?_
  rintro W0 ⟨B0, x0, x1, y0, y1, z0, z1⟩
  refine (begun_any _ (HL.out.on B0)).mono ?_
  rintro e w1 ⟨rfl, hb1⟩
  replace x0 := keepc hb1 x0; replace x1 := keepc hb1 x1
  replace y0 := keepc hb1 y0; replace y1 := keepc hb1 y1
  replace z0 := keepc hb1 z0; replace z1 := keepc hb1 z1
  go_wp2_with fail
  refine (cmp_any x y _).mono ?_
  rintro e w2 ⟨rfl, hb2⟩
  replace x0 := keepc hb2 x0; replace x1 := keepc hb2 x1
  replace y0 := keepc hb2 y0; replace y1 := keepc hb2 y1
  replace z0 := keepc hb2 z0; replace z1 := keepc hb2 z1
  go_wp2_with fail
  refine (cmp_any y x _).mono ?_
  rintro e w3 ⟨rfl, hb3⟩
  replace x0 := keepc hb3 x0; replace x1 := keepc hb3 x1
  replace y0 := keepc hb3 y0; replace y1 := keepc hb3 y1
  replace z0 := keepc hb3 z0; replace z1 := keepc hb3 z1
  go_wp2_with fail
  refine (cmp_any y z _).mono ?_
  rintro e w4 ⟨rfl, hb4⟩
  replace x0 := keepc hb4 x0; replace x1 := keepc hb4 x1
  replace y0 := keepc hb4 y0; replace y1 := keepc hb4 y1
  replace z0 := keepc hb4 z0; replace z1 := keepc hb4 z1
  go_wp2_with fail
  refine (cmp_any x z _).mono ?_
  rintro e w5 ⟨rfl, hb5⟩
  replace x0 := keepc hb5 x0; replace x1 := keepc hb5 x1
  replace y0 := keepc hb5 y0; replace y1 := keepc hb5 y1
  replace z0 := keepc hb5 z0; replace z1 := keepc hb5 z1
  rw [cmp_turn x y]
  obtain ⟨a1, a2⟩ := cmp_bd x y
  obtain ⟨A, hA⟩ : ∃ A, cmpN x y = A := ⟨_, rfl⟩
  obtain ⟨C, hC⟩ : ∃ C, cmpN y z = C := ⟨_, rfl⟩
  obtain ⟨D, hD⟩ : ∃ D, cmpN x z = D := ⟨_, rfl⟩
  rw [hA] at a1 a2
  rw [hA, hC, hD]
  have HA := hid1 hA; have HC := hid1 hC; have HD := hid1 hD
  clear hA hC hD
  go_upto_region 8 with fail
  go_cut [74] (fun s wx => s = .bool false ∧ wx = w5)
  case first =>
    have h3 : A = -1 ∨ A = 0 ∨ A = 1 := by omega
    clear a1 a2
    rcases h3 with rfl | rfl | rfl
    · have hxy : x < y := by have h := HA.out; unfold cmpN at h; split at h <;> (try split at h) <;> omega
      by_cases hc : C ≤ 0
      · have hd : D ≤ 0 := by have h1 := HC.out; have h2 := HD.out; rw [← h1, cmp_le] at hc; rw [← h2, cmp_le]; omega
        rcases words_ne (show x ≠ y by omega) with he | ⟨he, hl⟩
        all_goals
          clear hxy
          go_wp2_with fail
          go_meet
          exact ⟨by first | rfl | (refine congrArg Value.bool ?_; simp; omega), rfl⟩
      · rcases words_ne (show x ≠ y by omega) with he | ⟨he, hl⟩
        all_goals
          clear hxy
          go_wp2_with fail
          go_meet
          exact ⟨by first | rfl | (refine congrArg Value.bool ?_; simp; omega), rfl⟩
    · have hxy : x = y := by have h := HA.out; unfold cmpN at h; split at h <;> (try split at h) <;> omega
      have hCD : C = D := by rw [← HC.out, ← HD.out, hxy]
      subst hCD
      subst hxy
      by_cases hc : C ≤ 0 <;> by_cases hc' : 0 ≤ C
      all_goals
        go_wp2_with fail
        go_meet
        exact ⟨by first | rfl | (refine congrArg Value.bool ?_; simp; omega), rfl⟩
    · have hxy : y < x := by have h := HA.out; unfold cmpN at h; split at h <;> (try split at h) <;> omega
      by_cases hc : 0 ≤ C
      · have hd : 0 ≤ D := by have h1 := HC.out; have h2 := HD.out; rw [← h1, cmp_ge] at hc; rw [← h2, cmp_ge]; omega
        rcases words_ne (show x ≠ y by omega) with he | ⟨he, hl⟩
        all_goals
          clear hxy
          go_wp2_with fail
          go_meet
          exact ⟨by first | rfl | (refine congrArg Value.bool ?_; simp; omega), rfl⟩
      · rcases words_ne (show x ≠ y by omega) with he | ⟨he, hl⟩
        all_goals
          clear hxy
          go_wp2_with fail
          go_meet
          exact ⟨by first | rfl | (refine congrArg Value.bool ?_; simp; omega), rfl⟩
  case rest =>
    obtain ⟨rfl, rfl⟩ := hcut
    clear a1 a2
    go_upto_region 10 with fail
    go_cut [12, 13] (fun su so wx => ∃ M, su = .pointer (some ⟨M, 0, none⟩) ∧ so = .bool true ∧ Below wc.heap.size wc wx ∧ wx.cell? ⟨M, 0, none⟩ = some (.int .i64 (hiOf (lowN x + lowN z))) ∧ wx.cell? ⟨M, 1, none⟩ = some (.int .u64 (loOf (lowN x + lowN z))))
    case first =>
      go_region_held3 (fun W => W.cell? ⟨w.heap.size, 0, none⟩ = some (.int .i64 (hiOf x)) ∧ W.cell? ⟨w.heap.size, 1, none⟩ = some (.int .u64 (loOf x)) ∧ W.cell? ⟨w.heap.size + 1 + 1, 0, none⟩ = some (.int .i64 (hiOf z)) ∧ W.cell? ⟨w.heap.size + 1 + 1, 1, none⟩ = some (.int .u64 (loOf z))) (((try dsimp only); exact ⟨keepc (W := wc) (by repeat (first | exact Below.refl _ _ | refine bl_alloc ?_ _ | refine Below.drew ?_ | refine bl_drewN ?_ _ | refine bl_set ?_ (by omega) _ | refine bl_step ?_ (by assumption))) x0, keepc (W := wc) (by repeat (first | exact Below.refl _ _ | refine bl_alloc ?_ _ | refine Below.drew ?_ | refine bl_drewN ?_ _ | refine bl_set ?_ (by omega) _ | refine bl_step ?_ (by assumption))) x1, keepc (W := wc) (by repeat (first | exact Below.refl _ _ | refine bl_alloc ?_ _ | refine Below.drew ?_ | refine bl_drewN ?_ _ | refine bl_set ?_ (by omega) _ | refine bl_step ?_ (by assumption))) z0, keepc (W := wc) (by repeat (first | exact Below.refl _ _ | refine bl_alloc ?_ _ | refine Below.drew ?_ | refine bl_drewN ?_ _ | refine bl_set ?_ (by omega) _ | refine bl_step ?_ (by assumption))) z1⟩))
        (first
          | (go_at_call_of 16 (hiOf x); refine (lower_any x hx _).mono ?_; rintro e v1 ⟨rfl, hv1⟩; have s1 := hv1.size; (try simp at s1))
          | (go_at_call_of 16 (hiOf z); refine (lower_any z hz _).mono ?_; rintro e v2 ⟨rfl, hv2⟩; have s2 := hv2.size; (try simp at s2))
          | (go_at_call 15; refine (ladd_ok (lowN x) (lowN z) (low_sum hx hz) _).mono ?_; rintro e v3 ⟨rfl, hv3⟩; have sv3 : wc.heap.size ≤ v3.heap.size := (show Below wc.heap.size wc v3 by repeat (first | exact Below.refl _ _ | refine bl_alloc ?_ _ | refine Below.drew ?_ | refine bl_drewN ?_ _ | refine bl_set ?_ (by omega) _ | refine bl_step ?_ (by assumption))).size; have ya0 := keepc hv3 (keepc hv2 (keepc hv1 (new0 wc (.int .i64 0) (.int .u64 0) _))); have ya1 := keepc hv3 (keepc hv2 (keepc hv1 (new1 wc (.int .i64 0) (.int .u64 0) _))); have lt1 : wc.heap.size < v1.heap.size := s1; have lt2 : wc.heap.size < v2.heap.size := Nat.lt_of_lt_of_le lt1 hv2.size; have fa0 := keepf hv3 lt2 (keepf hv2 lt1 (keepf hv1 (newlt wc _) (newf wc (.int .i64 0) (.int .u64 0) _ 0))); have fa1 := keepf hv3 lt2 (keepf hv2 lt1 (keepf hv1 (newlt wc _) (newf wc (.int .i64 0) (.int .u64 0) _ 1))))
          | (go_at_call 15; refine (ladd_ok (lowN x) (lowN z) (low_sum hx hz) _).mono ?_; rintro e v3 ⟨rfl, hv3⟩; have sv3 : wc.heap.size ≤ v3.heap.size := (show Below wc.heap.size wc v3 by repeat (first | exact Below.refl _ _ | refine bl_alloc ?_ _ | refine Below.drew ?_ | refine bl_drewN ?_ _ | refine bl_set ?_ (by omega) _ | refine bl_step ?_ (by assumption))).size; have ya0 := keepc hv3 (keepc hv2 (new0' v1 (.int .i64 0) (.int .u64 0) _)); have ya1 := keepc hv3 (keepc hv2 (new1' v1 (.int .i64 0) (.int .u64 0) _)); have lt2 : v1.heap.size < v2.heap.size := s2; have fa0 := keepf hv3 lt2 (keepf hv2 (newlt' v1 _) (newf' v1 (.int .i64 0) (.int .u64 0) _ 0)); have fa1 := keepf hv3 lt2 (keepf hv2 (newlt' v1 _) (newf' v1 (.int .i64 0) (.int .u64 0) _ 1)); have le1 : wc.heap.size ≤ v1.heap.size := (show Below wc.heap.size wc v1 by repeat (first | exact Below.refl _ _ | refine bl_alloc ?_ _ | refine Below.drew ?_ | refine bl_drewN ?_ _ | refine bl_set ?_ (by omega) _ | refine bl_step ?_ (by assumption))).size)
          | (go_at_call 15; refine (ladd_ok (lowN x) (lowN z) (low_sum hx hz) _).mono ?_; rintro e v3 ⟨rfl, hv3⟩; have sv3 : wc.heap.size ≤ v3.heap.size := (show Below wc.heap.size wc v3 by repeat (first | exact Below.refl _ _ | refine bl_alloc ?_ _ | refine Below.drew ?_ | refine bl_drewN ?_ _ | refine bl_set ?_ (by omega) _ | refine bl_step ?_ (by assumption))).size; have ya0 := keepc hv3 (new0' v2 (.int .i64 0) (.int .u64 0) _); have ya1 := keepc hv3 (new1' v2 (.int .i64 0) (.int .u64 0) _); have fa0 := keepf hv3 (newlt' v2 _) (newf' v2 (.int .i64 0) (.int .u64 0) _ 0); have fa1 := keepf hv3 (newlt' v2 _) (newf' v2 (.int .i64 0) (.int .u64 0) _ 1); have le2 : wc.heap.size ≤ v2.heap.size := (show Below wc.heap.size wc v2 by repeat (first | exact Below.refl _ _ | refine bl_alloc ?_ _ | refine Below.drew ?_ | refine bl_drewN ?_ _ | refine bl_set ?_ (by omega) _ | refine bl_step ?_ (by assumption))).size)
          | (go_at_call 15; refine (ladd_ok (lowN x) (lowN z) (low_sum hx hz) _).mono ?_; rintro e v3 ⟨rfl, hv3⟩; have sv3 : wc.heap.size ≤ v3.heap.size := (show Below wc.heap.size wc v3 by repeat (first | exact Below.refl _ _ | refine bl_alloc ?_ _ | refine Below.drew ?_ | refine bl_drewN ?_ _ | refine bl_set ?_ (by omega) _ | refine bl_step ?_ (by assumption))).size))
      all_goals go_wp2_with fail
      all_goals go_meet
      all_goals exact ⟨_, rfl, rfl, by repeat (first | exact Below.refl _ _ | refine bl_alloc ?_ _ | refine Below.drew ?_ | refine bl_drewN ?_ _ | refine bl_set ?_ (by omega) _ | refine bl_step ?_ (by assumption)), by simp [go_sem, *], by simp [go_sem, *]⟩
    case rest =>
      obtain ⟨U, rfl, rfl, hbu, u0, u1⟩ := hcut
      replace x0 := keepc hbu x0; replace x1 := keepc hbu x1; replace y0 := keepc hbu y0; replace y1 := keepc hbu y1; replace z0 := keepc hbu z0; replace z1 := keepc hbu z1
      go_upto_region 11 with fail
      go_cut [14, 15] (fun su so wx => ∃ M, su = .pointer (some ⟨M, 0, none⟩) ∧ so = .bool true ∧ Below wc.heap.size wc wx ∧ wx.cell? ⟨M, 0, none⟩ = some (.int .i64 (hiOf (lowN y + lowN z))) ∧ wx.cell? ⟨M, 1, none⟩ = some (.int .u64 (loOf (lowN y + lowN z))))
      case first =>
        go_region_held3 (fun W => W.cell? ⟨w.heap.size + 1, 0, none⟩ = some (.int .i64 (hiOf y)) ∧ W.cell? ⟨w.heap.size + 1, 1, none⟩ = some (.int .u64 (loOf y)) ∧ W.cell? ⟨w.heap.size + 1 + 1, 0, none⟩ = some (.int .i64 (hiOf z)) ∧ W.cell? ⟨w.heap.size + 1 + 1, 1, none⟩ = some (.int .u64 (loOf z))) (((try dsimp only); exact ⟨keepc (W := wc) (by repeat (first | exact Below.refl _ _ | refine bl_alloc ?_ _ | refine Below.drew ?_ | refine bl_drewN ?_ _ | refine bl_set ?_ (by omega) _ | refine bl_step ?_ (by assumption))) y0, keepc (W := wc) (by repeat (first | exact Below.refl _ _ | refine bl_alloc ?_ _ | refine Below.drew ?_ | refine bl_drewN ?_ _ | refine bl_set ?_ (by omega) _ | refine bl_step ?_ (by assumption))) y1, keepc (W := wc) (by repeat (first | exact Below.refl _ _ | refine bl_alloc ?_ _ | refine Below.drew ?_ | refine bl_drewN ?_ _ | refine bl_set ?_ (by omega) _ | refine bl_step ?_ (by assumption))) z0, keepc (W := wc) (by repeat (first | exact Below.refl _ _ | refine bl_alloc ?_ _ | refine Below.drew ?_ | refine bl_drewN ?_ _ | refine bl_set ?_ (by omega) _ | refine bl_step ?_ (by assumption))) z1⟩))
          (first
            | (go_at_call_of 16 (hiOf y); refine (lower_any y hy _).mono ?_; rintro e v1 ⟨rfl, hv1⟩; have s1 := hv1.size; (try simp at s1))
            | (go_at_call_of 16 (hiOf z); refine (lower_any z hz _).mono ?_; rintro e v2 ⟨rfl, hv2⟩; have s2 := hv2.size; (try simp at s2))
            | (go_at_call 15; refine (ladd_ok (lowN y) (lowN z) (low_sum hy hz) _).mono ?_; rintro e v3 ⟨rfl, hv3⟩; have sv3 : wc.heap.size ≤ v3.heap.size := (show Below wc.heap.size wc v3 by repeat (first | exact Below.refl _ _ | refine bl_alloc ?_ _ | refine Below.drew ?_ | refine bl_drewN ?_ _ | refine bl_set ?_ (by omega) _ | refine bl_step ?_ (by assumption))).size; have ya0 := keepc hv3 (keepc hv2 (keepc hv1 (new0 wc (.int .i64 0) (.int .u64 0) _))); have ya1 := keepc hv3 (keepc hv2 (keepc hv1 (new1 wc (.int .i64 0) (.int .u64 0) _))); have lt1 : wc.heap.size < v1.heap.size := s1; have lt2 : wc.heap.size < v2.heap.size := Nat.lt_of_lt_of_le lt1 hv2.size; have fa0 := keepf hv3 lt2 (keepf hv2 lt1 (keepf hv1 (newlt wc _) (newf wc (.int .i64 0) (.int .u64 0) _ 0))); have fa1 := keepf hv3 lt2 (keepf hv2 lt1 (keepf hv1 (newlt wc _) (newf wc (.int .i64 0) (.int .u64 0) _ 1))))
            | (go_at_call 15; refine (ladd_ok (lowN y) (lowN z) (low_sum hy hz) _).mono ?_; rintro e v3 ⟨rfl, hv3⟩; have sv3 : wc.heap.size ≤ v3.heap.size := (show Below wc.heap.size wc v3 by repeat (first | exact Below.refl _ _ | refine bl_alloc ?_ _ | refine Below.drew ?_ | refine bl_drewN ?_ _ | refine bl_set ?_ (by omega) _ | refine bl_step ?_ (by assumption))).size; have ya0 := keepc hv3 (keepc hv2 (new0' v1 (.int .i64 0) (.int .u64 0) _)); have ya1 := keepc hv3 (keepc hv2 (new1' v1 (.int .i64 0) (.int .u64 0) _)); have lt2 : v1.heap.size < v2.heap.size := s2; have fa0 := keepf hv3 lt2 (keepf hv2 (newlt' v1 _) (newf' v1 (.int .i64 0) (.int .u64 0) _ 0)); have fa1 := keepf hv3 lt2 (keepf hv2 (newlt' v1 _) (newf' v1 (.int .i64 0) (.int .u64 0) _ 1)); have le1 : wc.heap.size ≤ v1.heap.size := (show Below wc.heap.size wc v1 by repeat (first | exact Below.refl _ _ | refine bl_alloc ?_ _ | refine Below.drew ?_ | refine bl_drewN ?_ _ | refine bl_set ?_ (by omega) _ | refine bl_step ?_ (by assumption))).size)
            | (go_at_call 15; refine (ladd_ok (lowN y) (lowN z) (low_sum hy hz) _).mono ?_; rintro e v3 ⟨rfl, hv3⟩; have sv3 : wc.heap.size ≤ v3.heap.size := (show Below wc.heap.size wc v3 by repeat (first | exact Below.refl _ _ | refine bl_alloc ?_ _ | refine Below.drew ?_ | refine bl_drewN ?_ _ | refine bl_set ?_ (by omega) _ | refine bl_step ?_ (by assumption))).size; have ya0 := keepc hv3 (new0' v2 (.int .i64 0) (.int .u64 0) _); have ya1 := keepc hv3 (new1' v2 (.int .i64 0) (.int .u64 0) _); have fa0 := keepf hv3 (newlt' v2 _) (newf' v2 (.int .i64 0) (.int .u64 0) _ 0); have fa1 := keepf hv3 (newlt' v2 _) (newf' v2 (.int .i64 0) (.int .u64 0) _ 1); have le2 : wc.heap.size ≤ v2.heap.size := (show Below wc.heap.size wc v2 by repeat (first | exact Below.refl _ _ | refine bl_alloc ?_ _ | refine Below.drew ?_ | refine bl_drewN ?_ _ | refine bl_set ?_ (by omega) _ | refine bl_step ?_ (by assumption))).size)
            | (go_at_call 15; refine (ladd_ok (lowN y) (lowN z) (low_sum hy hz) _).mono ?_; rintro e v3 ⟨rfl, hv3⟩; have sv3 : wc.heap.size ≤ v3.heap.size := (show Below wc.heap.size wc v3 by repeat (first | exact Below.refl _ _ | refine bl_alloc ?_ _ | refine Below.drew ?_ | refine bl_drewN ?_ _ | refine bl_set ?_ (by omega) _ | refine bl_step ?_ (by assumption))).size))
        all_goals go_wp2_with fail
        all_goals go_meet
        all_goals exact ⟨_, rfl, rfl, by repeat (first | exact Below.refl _ _ | refine bl_alloc ?_ _ | refine Below.drew ?_ | refine bl_drewN ?_ _ | refine bl_set ?_ (by omega) _ | refine bl_step ?_ (by assumption)), by simp [go_sem, *], by simp [go_sem, *]⟩
      case rest =>
        obtain ⟨V, rfl, rfl, hbv, v0, v1⟩ := hcut
        replace x0 := keepc hbv x0; replace x1 := keepc hbv x1; replace y0 := keepc hbv y0; replace y1 := keepc hbv y1; replace u0 := keepc hbv u0; replace u1 := keepc hbv u1
        clear z0 z1
        have hfin : (cmpN (lowN x + lowN z) (lowN y + lowN z) == cmpN (lowN x) (lowN y)) = true := by rw [cmp_shift]; simp
        go_upto_region 12 with fail
        go_region_held3 (fun W => W.cell? ⟨U, 0, none⟩ = some (.int .i64 (hiOf (lowN x + lowN z))) ∧ W.cell? ⟨U, 1, none⟩ = some (.int .u64 (loOf (lowN x + lowN z))) ∧ W.cell? ⟨V, 0, none⟩ = some (.int .i64 (hiOf (lowN y + lowN z))) ∧ W.cell? ⟨V, 1, none⟩ = some (.int .u64 (loOf (lowN y + lowN z))) ∧ W.cell? ⟨w.heap.size, 0, none⟩ = some (.int .i64 (hiOf x)) ∧ W.cell? ⟨w.heap.size, 1, none⟩ = some (.int .u64 (loOf x)) ∧ W.cell? ⟨w.heap.size + 1, 0, none⟩ = some (.int .i64 (hiOf y)) ∧ W.cell? ⟨w.heap.size + 1, 1, none⟩ = some (.int .u64 (loOf y))) (((try dsimp only); exact ⟨keepc (W := wc) (by repeat (first | exact Below.refl _ _ | refine bl_alloc ?_ _ | refine Below.drew ?_ | refine bl_drewN ?_ _ | refine bl_set ?_ (by omega) _ | refine bl_step ?_ (by assumption))) u0, keepc (W := wc) (by repeat (first | exact Below.refl _ _ | refine bl_alloc ?_ _ | refine Below.drew ?_ | refine bl_drewN ?_ _ | refine bl_set ?_ (by omega) _ | refine bl_step ?_ (by assumption))) u1, keepc (W := wc) (by repeat (first | exact Below.refl _ _ | refine bl_alloc ?_ _ | refine Below.drew ?_ | refine bl_drewN ?_ _ | refine bl_set ?_ (by omega) _ | refine bl_step ?_ (by assumption))) v0, keepc (W := wc) (by repeat (first | exact Below.refl _ _ | refine bl_alloc ?_ _ | refine Below.drew ?_ | refine bl_drewN ?_ _ | refine bl_set ?_ (by omega) _ | refine bl_step ?_ (by assumption))) v1, keepc (W := wc) (by repeat (first | exact Below.refl _ _ | refine bl_alloc ?_ _ | refine Below.drew ?_ | refine bl_drewN ?_ _ | refine bl_set ?_ (by omega) _ | refine bl_step ?_ (by assumption))) x0, keepc (W := wc) (by repeat (first | exact Below.refl _ _ | refine bl_alloc ?_ _ | refine Below.drew ?_ | refine bl_drewN ?_ _ | refine bl_set ?_ (by omega) _ | refine bl_step ?_ (by assumption))) x1, keepc (W := wc) (by repeat (first | exact Below.refl _ _ | refine bl_alloc ?_ _ | refine Below.drew ?_ | refine bl_drewN ?_ _ | refine bl_set ?_ (by omega) _ | refine bl_step ?_ (by assumption))) y0, keepc (W := wc) (by repeat (first | exact Below.refl _ _ | refine bl_alloc ?_ _ | refine Below.drew ?_ | refine bl_drewN ?_ _ | refine bl_set ?_ (by omega) _ | refine bl_step ?_ (by assumption))) y1⟩))
          (first
            | (go_at_call_of 14 (hiOf (lowN x + lowN z)); refine (cmp_any (lowN x + lowN z) (lowN y + lowN z) _).mono ?_; rintro e q1 ⟨rfl, hq1⟩)
            | (go_at_call_of 16 (hiOf x); refine (lower_any x hx _).mono ?_; rintro e q2 ⟨rfl, hq2⟩)
            | (go_at_call_of 16 (hiOf y); refine (lower_any y hy _).mono ?_; rintro e q3 ⟨rfl, hq3⟩)
            | (go_at_call_of 14 (wv (lowN x)); refine (cmp_any (lowN x) (lowN y) _).mono ?_; rintro e q4 ⟨rfl, hq4⟩))
        all_goals go_wp2
        all_goals go_ret
        all_goals exact ⟨rfl, by repeat (first | exact Below.refl _ _ | refine bl_alloc ?_ _ | refine Below.drew ?_ | refine bl_drewN ?_ _ | refine bl_set ?_ (by omega) _ | refine bl_step ?_ (by assumption))⟩
end Go.Proofs.YteonglbplbaeaaaDoor
