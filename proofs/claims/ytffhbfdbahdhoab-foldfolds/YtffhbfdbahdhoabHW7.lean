/- PACKAGE fold: turn. -/
import Derived.Test.YtffhbfdbahdhoabHW6
namespace Go.Proofs.Ytffhbfdbahdhoab
open Go.RowKit Go.Shelf Wd
attribute [local go_sem ↓] Go.wp_at_zero Go.wp_at_succ

def l4 (a b c d : Int) (k : Nat) : Int := match k with | 0 => a | 1 => b | 2 => c | _ => d
def p4 (a b c d : Int) (k : Nat) : Int := match k with | 0 => 1 | 1 => a | 2 => a * b | 3 => a * b * c | _ => a * b * c * d
def l5 (a b c d e : Int) (k : Nat) : Int := match k with | 0 => a | 1 => b | 2 => c | 3 => d | _ => e
def p5 (a b c d e : Int) (k : Nat) : Int := match k with | 0 => 1 | 1 => a | 2 => a * b | 3 => a * b * c | 4 => a * b * c * d | _ => a * b * c * d * e
theorem scale_to {a b q : Int} (h : a * b = q) (ha : Rng a) (hb : I64 b) (hq : Rng q) (w : World) :
    Calls Try.prog 47 #[wv a, .int .i64 b] w fun e w' => e = .returned (.tuple #[wv q, .int .i64 0]) ∧ Below w.heap.size w w' := by
  have k := scale_any a b ha hb w
  rw [h, fitV_ok hq, errV_ok hq] at k; exact k
theorem ceil_to {a b : Int} (ha : Rng a) (hb : I64 b) (h0 : b ≠ 0) (h : Rng (ceilN a b)) (w : World) :
    Calls Try.prog 27 #[wv a, .int .i64 b] w fun e w' => e = .returned (.tuple #[wv (ceilN a b), .int .i64 0]) ∧ Below w.heap.size w w' := by
  have k := ceil_any a b ha hb h0 (parts_well a b ha hb h0) w
  rw [fitV_ok h, errV_ok h] at k; exact k
theorem floor_to {a b : Int} (ha : Rng a) (hb : I64 b) (h0 : b ≠ 0) (h : Rng (floorN a b)) (w : World) :
    Calls Try.prog 28 #[wv a, .int .i64 b] w fun e w' => e = .returned (.tuple #[wv (floorN a b), .int .i64 0]) ∧ Below w.heap.size w w' := by
  have k := floor_any a b ha hb h0 (parts_well a b ha hb h0) w
  rw [fitV_ok h, errV_ok h] at k; exact k
theorem rng_one : Rng 1 := by unfold Rng; omega
theorem mean_scale {gn gd bn bd mn md sn sd : Int} (hg : Fr gn gd) (hb : Fr bn bd) (hm : Fr mn md) (hs : Fr sn sd) (k : Nat) (hk : k < 4) (w : World) :
    Calls Try.prog 47 #[wv (p4 mn gn bd sd k), .int .i64 (l4 mn gn bd sd k)] w fun e w' => e = .returned (.tuple #[wv (p4 mn gn bd sd (k + 1)), .int .i64 0]) ∧ Below w.heap.size w w' := by
  obtain ⟨a1, a2, a3⟩ := mean_bd hg hb hm hs
  have r1 : Rng mn := by have := i64_num hm; unfold I64 at this; unfold Rng; omega
  have r2 : Rng (mn * gn) := by unfold Rng; omega
  have r3 : Rng (mn * gn * bd) := by unfold Rng; omega
  have r4 : Rng (mn * gn * bd * sd) := by unfold Rng; omega
  match k, hk with
  | 0, _ => exact scale_to (by show 1 * mn = mn; omega) rng_one (i64_num hm) r1 w
  | 1, _ => exact scale_to rfl r1 (i64_num hg) r2 w
  | 2, _ => exact scale_to rfl r2 (i64_den hb).1 r3 w
  | 3, _ => exact scale_to rfl r3 (i64_den hs).1 r4 w
theorem shift_scale {gn gd bn bd mn md sn sd : Int} (hg : Fr gn gd) (hb : Fr bn bd) (hm : Fr mn md) (hs : Fr sn sd) (k : Nat) (hk : k < 5) (w : World) :
    Calls Try.prog 47 #[wv (p5 (-1) bn sn gd md k), .int .i64 (l5 (-1) bn sn gd md k)] w fun e w' => e = .returned (.tuple #[wv (p5 (-1) bn sn gd md (k + 1)), .int .i64 0]) ∧ Below w.heap.size w w' := by
  obtain ⟨a1, a2, a3, a4⟩ := shift_bd hg hb hm hs
  have r0 : Rng (-1) := by unfold Rng; omega
  have i1 : I64 (-1) := ⟨by omega, by omega⟩
  have r1 : Rng (-1 * bn) := by unfold Rng; omega
  have r2 : Rng (-1 * bn * sn) := by unfold Rng; omega
  have r3 : Rng (-1 * bn * sn * gd) := by unfold Rng; omega
  have r4 : Rng (-1 * bn * sn * gd * md) := by unfold Rng; omega
  match k, hk with
  | 0, _ => exact scale_to (by show 1 * -1 = -1; omega) rng_one i1 r0 w
  | 1, _ => exact scale_to rfl r0 (i64_num hb) r1 w
  | 2, _ => exact scale_to rfl r1 (i64_num hs) r2 w
  | 3, _ => exact scale_to rfl r2 (i64_den hg).1 r3 w
  | 4, _ => exact scale_to rfl r3 (i64_den hm).1 r4 w
theorem ix4_0 (a b c d : Int) (W : World) : (Instr.index 71 (.agg #[.int .i64 a, .int .i64 b, .int .i64 c, .int .i64 d]) (.int .i64 0)).run Try.prog W = .ok (.int .i64 a) W := by kernel_rfl
theorem ix4_1 (a b c d : Int) (W : World) : (Instr.index 71 (.agg #[.int .i64 a, .int .i64 b, .int .i64 c, .int .i64 d]) (.int .i64 1)).run Try.prog W = .ok (.int .i64 b) W := by kernel_rfl
theorem ix4_2 (a b c d : Int) (W : World) : (Instr.index 71 (.agg #[.int .i64 a, .int .i64 b, .int .i64 c, .int .i64 d]) (.int .i64 2)).run Try.prog W = .ok (.int .i64 c) W := by kernel_rfl
theorem ix4_3 (a b c d : Int) (W : World) : (Instr.index 71 (.agg #[.int .i64 a, .int .i64 b, .int .i64 c, .int .i64 d]) (.int .i64 3)).run Try.prog W = .ok (.int .i64 d) W := by kernel_rfl
theorem ix4 (a b c d : Int) (k : Nat) (hk : k < 4) (W : World) : (Instr.index 71 (.agg #[.int .i64 a, .int .i64 b, .int .i64 c, .int .i64 d]) (.int .i64 k)).run Try.prog W = .ok (.int .i64 (l4 a b c d k)) W := by
  match k, hk with
  | 0, _ => exact ix4_0 a b c d W
  | 1, _ => exact ix4_1 a b c d W
  | 2, _ => exact ix4_2 a b c d W
  | 3, _ => exact ix4_3 a b c d W
theorem fs4 {w : World} {g : Nat} {a b c d : Int} (h0 : w.cell? ⟨g, 0, none⟩ = some (.int .i64 a)) (h1 : w.cell? ⟨g, 1, none⟩ = some (.int .i64 b)) (h2 : w.cell? ⟨g, 2, none⟩ = some (.int .i64 c)) (h3 : w.cell? ⟨g, 3, none⟩ = some (.int .i64 d)) : Fs w g 4 (l4 a b c d) := fun k hk => by
  match k, hk with
  | 0, _ => exact h0
  | 1, _ => exact h1
  | 2, _ => exact h2
  | 3, _ => exact h3
theorem fs5 {w : World} {g : Nat} {a b c d e : Int} (h0 : w.cell? ⟨g, 0, none⟩ = some (.int .i64 a)) (h1 : w.cell? ⟨g, 1, none⟩ = some (.int .i64 b)) (h2 : w.cell? ⟨g, 2, none⟩ = some (.int .i64 c)) (h3 : w.cell? ⟨g, 3, none⟩ = some (.int .i64 d)) (h4 : w.cell? ⟨g, 4, none⟩ = some (.int .i64 e)) : Fs w g 5 (l5 a b c d e) := fun k hk => by
  match k, hk with
  | 0, _ => exact h0
  | 1, _ => exact h1
  | 2, _ => exact h2
  | 3, _ => exact h3
  | 4, _ => exact h4
set_option maxHeartbeats 800000 in
set_option maxRecDepth 100000 in
theorem turn_Ceil (gn gd bn bd mn md sn sd x y p : Int) (q : Nat → Int) (f4 f5 : Nat → Int) (e4 : Hid (f4 = l4 mn gn bd sd)) (e5 : Hid (f5 = l5 (-1) bn sn gd md)) (q0 : Hid (q 0 = p))
    (HX : Hid (∀ w g, Hid (Fs w g 4 f4) → Calls Try.prog 36 #[.slice (some ⟨g, 0, none⟩) 4 4] w fun e w' => e = .returned (wv x) ∧ Below w.heap.size w w'))
    (HY : Hid (∀ w g, Hid (Fs w g 5 f5) → Calls Try.prog 36 #[.slice (some ⟨g, 0, none⟩) 5 5] w fun e w' => e = .returned (wv y) ∧ Below w.heap.size w w'))
    (HA : Hid (∀ w : World, Calls Try.prog 37 #[wv x, wv y] w fun e w' => e = .returned (.tuple #[wv p, .int .i64 0]) ∧ Below w.heap.size w w'))
    (HR : Hid (∀ k, k < 4 → ∀ w : World, Calls Try.prog 27 #[wv (q k), .int .i64 (l4 gn md bd sd k)] w fun e w' => e = .returned (.tuple #[wv (q (k + 1)), .int .i64 0]) ∧ Below w.heap.size w w')) (w : World) :
    Calls Try.prog 26 #[nm gn gd bn bd mn md sn sd, fnv 27] w fun e w' => e = .returned (.int .i64 (cuN (q 4))) ∧ Below w.heap.size w w' := by
  have HI := hid1 (ix4 gn md bd sd)
  go_enter Try.func26, Try.ntmps26
  go_wp2_with fail
  refine gen_calls (fun X => Hid (Nm X w.heap.size gn gd bn bd mn md sn sd) ∧ Hid (Fs X (w.heap.size + 1) 4 f4) ∧ Below w.heap.size w X) ⟨hid1 ⟨by simp [go_sem], by simp [go_sem], by simp [go_sem], by simp [go_sem], by simp [go_sem], by simp [go_sem], by simp [go_sem], by simp [go_sem]⟩, hid1 (by rw [e4.out]; exact fs4 (by simp [go_sem]) (by simp [go_sem]) (by simp [go_sem]) (by simp [go_sem])), by repeat (first | (with_reducible exact Below.refl _ _) | (with_reducible refine bl_alloc ?_ _) | (with_reducible refine Below.drew ?_) | (with_reducible refine bl_drewN ?_ _) | (with_reducible refine bl_set ?_ (by omega) _) | (with_reducible refine bl_step ?_ (by assumption)))⟩ ?_
  rintro X1 ⟨HN, HF, B1⟩
  refine (HX.out _ _ HF).mono ?_
  rintro e w1 ⟨rfl, hb1⟩
  clear HX HF e4
  replace HN := hid1 (HN.out.keep hb1)
  replace B1 := bl_step B1 hb1
  clear hb1
  have z1 := B1.size
  obtain ⟨c0, c1, c2, c3, c4, c5, c6, c7⟩ := HN.out
  have zc0 := lt_of_cell c0
  go_wp2_with fail
  refine gen_calls (fun X => Hid (Nm X w.heap.size gn gd bn bd mn md sn sd) ∧ Hid (Wc X w1.heap.size x) ∧ Hid (Fs X (w1.heap.size + 1) 5 f5) ∧ Below w.heap.size w X) ⟨hid1 ⟨by simp [go_sem, *], by simp [go_sem, *], by simp [go_sem, *], by simp [go_sem, *], by simp [go_sem, *], by simp [go_sem, *], by simp [go_sem, *], by simp [go_sem, *]⟩, hid1 ⟨by simp [go_sem], by simp [go_sem], by simp [go_sem], by simp [go_sem]⟩, hid1 (by rw [e5.out]; exact fs5 (by simp [go_sem]) (by simp [go_sem]) (by simp [go_sem]) (by simp [go_sem]) (by simp [go_sem])), by repeat (first | (with_reducible exact Below.refl _ _) | (with_reducible refine bl_alloc ?_ _) | (with_reducible refine Below.drew ?_) | (with_reducible refine bl_drewN ?_ _) | (with_reducible refine bl_set ?_ (by omega) _) | (with_reducible refine bl_step ?_ (by assumption)))⟩ ?_
  clear c0 c1 c2 c3 c4 c5 c6 c7 HN B1
  rintro X2 ⟨HN, HW, HF, B2⟩
  refine (HY.out _ _ HF).mono ?_
  rintro e w2 ⟨rfl, hb2⟩
  clear HY HF e5
  replace HN := hid1 (HN.out.keep hb2)
  replace HW := hid1 (HW.out.keep hb2)
  replace B2 := bl_step B2 hb2
  clear hb2
  obtain ⟨x0, x1, x2, x3⟩ := HW.out
  generalize w1.heap.size = M1 at *
  have z2 := lt_of_cell x0
  go_wp2_with fail
  refine gen_calls (fun X => Hid (Nm X w.heap.size gn gd bn bd mn md sn sd) ∧ Below w.heap.size w X) ⟨by
    obtain ⟨c0, c1, c2, c3, c4, c5, c6, c7⟩ := HN.out
    have zc := lt_of_cell c0
    exact hid1 ⟨by simp [go_sem, *], by simp [go_sem, *], by simp [go_sem, *], by simp [go_sem, *], by simp [go_sem, *], by simp [go_sem, *], by simp [go_sem, *], by simp [go_sem, *]⟩, by repeat (first | (with_reducible exact Below.refl _ _) | (with_reducible refine bl_alloc ?_ _) | (with_reducible refine Below.drew ?_) | (with_reducible refine bl_drewN ?_ _) | (with_reducible refine bl_set ?_ (by omega) _) | (with_reducible refine bl_step ?_ (by assumption)))⟩ ?_
  clear HN HW B2 x0 x1 x2 x3
  rintro X3 ⟨HN, B3⟩
  refine (HA.out _).mono ?_
  rintro e w3 ⟨rfl, hb3⟩
  replace HN := hid1 (HN.out.keep hb3)
  replace B3 := bl_step B3 hb3
  clear hb3 HA z1 z2 zc0
  have z3 := B3.size
  obtain ⟨c0, c1, c2, c3, c4, c5, c6, c7⟩ := HN.out
  have zc := lt_of_cell c0
  go_wp2_with fail
  go_loopw [58] (fun i wr => ∃ k : Nat, k ≤ 4 ∧ i = .int .i64 k ∧ Hid (Wc wr w3.heap.size (q k)) ∧ Below w.heap.size w wr) (fun i _ => 4 - (intOf i).toNat)
  case atStart =>
    refine ⟨0, by omega, rfl, ?_, ?_⟩
    · rw [q0.out]; exact hid1 ⟨by simp [go_sem], by simp [go_sem], by simp [go_sem], by simp [go_sem]⟩
    · repeat (first | (with_reducible exact Below.refl _ _) | (with_reducible refine bl_alloc ?_ _) | (with_reducible refine Below.drew ?_) | (with_reducible refine bl_drewN ?_ _) | (with_reducible refine bl_set ?_ (by omega) _) | (with_reducible refine bl_step ?_ (by assumption)))
  case round =>
    clear c0 c1 c2 c3 c4 c5 c6 c7 HN B3 zc
    obtain ⟨k, hk, rfl, HW, hB⟩ := hrel
    by_cases hlt : k < 4
    · have i0 := HI.out k hlt
      have HK := hid1 (HR.out k hlt)
      have h1 : (0 : Int) ≤ (k : Int) := by omega
      have h2 : (k : Int) < 4 := by omega
      obtain ⟨x0, x1, x2, x3⟩ := HW.out
      have zx := lt_of_cell x0
      go_wp2_with fail
      refine (HK.out _).mono ?_
      rintro e w4 ⟨rfl, hb4⟩
      replace x2 := keepf hb4 zx x2; replace x3 := keepf hb4 zx x3
      replace x0 := keepc hb4 x0; replace x1 := keepc hb4 x1
      replace zx := lt_of_cell x0
      replace hB := bl_step hB hb4
      clear hb4
      go_wp2
      refine ⟨⟨k + 1, by omega, by simp, ?_, ?_⟩, by simp [intOf]; omega⟩
      · exact hid1 ⟨by simp [go_sem, *], by simp [go_sem, *], by simp [go_sem, *], by simp [go_sem, *]⟩
      · repeat (first | (with_reducible exact Below.refl _ _) | (with_reducible refine bl_alloc ?_ _) | (with_reducible refine Below.drew ?_) | (with_reducible refine bl_drewN ?_ _) | (with_reducible refine bl_set ?_ (by omega) _) | (with_reducible refine bl_step ?_ (by assumption)))
    · obtain rfl : k = 4 := by omega
      obtain ⟨x0, x1, x2, x3⟩ := HW.out
      go_wp2_with fail
      refine (fcut_any _ _).mono ?_
      rintro e w5 ⟨rfl, hb5⟩
      go_wp2
      go_ret
      exact ⟨rfl, bl_step hB hb5⟩
set_option maxHeartbeats 800000 in
set_option maxRecDepth 100000 in
theorem turn_Floor (gn gd bn bd mn md sn sd x y p : Int) (q : Nat → Int) (f4 f5 : Nat → Int) (e4 : Hid (f4 = l4 mn gn bd sd)) (e5 : Hid (f5 = l5 (-1) bn sn gd md)) (q0 : Hid (q 0 = p))
    (HX : Hid (∀ w g, Hid (Fs w g 4 f4) → Calls Try.prog 36 #[.slice (some ⟨g, 0, none⟩) 4 4] w fun e w' => e = .returned (wv x) ∧ Below w.heap.size w w'))
    (HY : Hid (∀ w g, Hid (Fs w g 5 f5) → Calls Try.prog 36 #[.slice (some ⟨g, 0, none⟩) 5 5] w fun e w' => e = .returned (wv y) ∧ Below w.heap.size w w'))
    (HA : Hid (∀ w : World, Calls Try.prog 37 #[wv x, wv y] w fun e w' => e = .returned (.tuple #[wv p, .int .i64 0]) ∧ Below w.heap.size w w'))
    (HR : Hid (∀ k, k < 4 → ∀ w : World, Calls Try.prog 28 #[wv (q k), .int .i64 (l4 gn md bd sd k)] w fun e w' => e = .returned (.tuple #[wv (q (k + 1)), .int .i64 0]) ∧ Below w.heap.size w w')) (w : World) :
    Calls Try.prog 26 #[nm gn gd bn bd mn md sn sd, fnv 28] w fun e w' => e = .returned (.int .i64 (cuN (q 4))) ∧ Below w.heap.size w w' := by
  have HI := hid1 (ix4 gn md bd sd)
  go_enter Try.func26, Try.ntmps26
  go_wp2_with fail
  refine gen_calls (fun X => Hid (Nm X w.heap.size gn gd bn bd mn md sn sd) ∧ Hid (Fs X (w.heap.size + 1) 4 f4) ∧ Below w.heap.size w X) ⟨hid1 ⟨by simp [go_sem], by simp [go_sem], by simp [go_sem], by simp [go_sem], by simp [go_sem], by simp [go_sem], by simp [go_sem], by simp [go_sem]⟩, hid1 (by rw [e4.out]; exact fs4 (by simp [go_sem]) (by simp [go_sem]) (by simp [go_sem]) (by simp [go_sem])), by repeat (first | (with_reducible exact Below.refl _ _) | (with_reducible refine bl_alloc ?_ _) | (with_reducible refine Below.drew ?_) | (with_reducible refine bl_drewN ?_ _) | (with_reducible refine bl_set ?_ (by omega) _) | (with_reducible refine bl_step ?_ (by assumption)))⟩ ?_
  rintro X1 ⟨HN, HF, B1⟩
  refine (HX.out _ _ HF).mono ?_
  rintro e w1 ⟨rfl, hb1⟩
  clear HX HF e4
  replace HN := hid1 (HN.out.keep hb1)
  replace B1 := bl_step B1 hb1
  clear hb1
  have z1 := B1.size
  obtain ⟨c0, c1, c2, c3, c4, c5, c6, c7⟩ := HN.out
  have zc0 := lt_of_cell c0
  go_wp2_with fail
  refine gen_calls (fun X => Hid (Nm X w.heap.size gn gd bn bd mn md sn sd) ∧ Hid (Wc X w1.heap.size x) ∧ Hid (Fs X (w1.heap.size + 1) 5 f5) ∧ Below w.heap.size w X) ⟨hid1 ⟨by simp [go_sem, *], by simp [go_sem, *], by simp [go_sem, *], by simp [go_sem, *], by simp [go_sem, *], by simp [go_sem, *], by simp [go_sem, *], by simp [go_sem, *]⟩, hid1 ⟨by simp [go_sem], by simp [go_sem], by simp [go_sem], by simp [go_sem]⟩, hid1 (by rw [e5.out]; exact fs5 (by simp [go_sem]) (by simp [go_sem]) (by simp [go_sem]) (by simp [go_sem]) (by simp [go_sem])), by repeat (first | (with_reducible exact Below.refl _ _) | (with_reducible refine bl_alloc ?_ _) | (with_reducible refine Below.drew ?_) | (with_reducible refine bl_drewN ?_ _) | (with_reducible refine bl_set ?_ (by omega) _) | (with_reducible refine bl_step ?_ (by assumption)))⟩ ?_
  clear c0 c1 c2 c3 c4 c5 c6 c7 HN B1
  rintro X2 ⟨HN, HW, HF, B2⟩
  refine (HY.out _ _ HF).mono ?_
  rintro e w2 ⟨rfl, hb2⟩
  clear HY HF e5
  replace HN := hid1 (HN.out.keep hb2)
  replace HW := hid1 (HW.out.keep hb2)
  replace B2 := bl_step B2 hb2
  clear hb2
  obtain ⟨x0, x1, x2, x3⟩ := HW.out
  generalize w1.heap.size = M1 at *
  have z2 := lt_of_cell x0
  go_wp2_with fail
  refine gen_calls (fun X => Hid (Nm X w.heap.size gn gd bn bd mn md sn sd) ∧ Below w.heap.size w X) ⟨by
    obtain ⟨c0, c1, c2, c3, c4, c5, c6, c7⟩ := HN.out
    have zc := lt_of_cell c0
    exact hid1 ⟨by simp [go_sem, *], by simp [go_sem, *], by simp [go_sem, *], by simp [go_sem, *], by simp [go_sem, *], by simp [go_sem, *], by simp [go_sem, *], by simp [go_sem, *]⟩, by repeat (first | (with_reducible exact Below.refl _ _) | (with_reducible refine bl_alloc ?_ _) | (with_reducible refine Below.drew ?_) | (with_reducible refine bl_drewN ?_ _) | (with_reducible refine bl_set ?_ (by omega) _) | (with_reducible refine bl_step ?_ (by assumption)))⟩ ?_
  clear HN HW B2 x0 x1 x2 x3
  rintro X3 ⟨HN, B3⟩
  refine (HA.out _).mono ?_
  rintro e w3 ⟨rfl, hb3⟩
  replace HN := hid1 (HN.out.keep hb3)
  replace B3 := bl_step B3 hb3
  clear hb3 HA z1 z2 zc0
  have z3 := B3.size
  obtain ⟨c0, c1, c2, c3, c4, c5, c6, c7⟩ := HN.out
  have zc := lt_of_cell c0
  go_wp2_with fail
  go_loopw [58] (fun i wr => ∃ k : Nat, k ≤ 4 ∧ i = .int .i64 k ∧ Hid (Wc wr w3.heap.size (q k)) ∧ Below w.heap.size w wr) (fun i _ => 4 - (intOf i).toNat)
  case atStart =>
    refine ⟨0, by omega, rfl, ?_, ?_⟩
    · rw [q0.out]; exact hid1 ⟨by simp [go_sem], by simp [go_sem], by simp [go_sem], by simp [go_sem]⟩
    · repeat (first | (with_reducible exact Below.refl _ _) | (with_reducible refine bl_alloc ?_ _) | (with_reducible refine Below.drew ?_) | (with_reducible refine bl_drewN ?_ _) | (with_reducible refine bl_set ?_ (by omega) _) | (with_reducible refine bl_step ?_ (by assumption)))
  case round =>
    clear c0 c1 c2 c3 c4 c5 c6 c7 HN B3 zc
    obtain ⟨k, hk, rfl, HW, hB⟩ := hrel
    by_cases hlt : k < 4
    · have i0 := HI.out k hlt
      have HK := hid1 (HR.out k hlt)
      have h1 : (0 : Int) ≤ (k : Int) := by omega
      have h2 : (k : Int) < 4 := by omega
      obtain ⟨x0, x1, x2, x3⟩ := HW.out
      have zx := lt_of_cell x0
      go_wp2_with fail
      refine (HK.out _).mono ?_
      rintro e w4 ⟨rfl, hb4⟩
      replace x2 := keepf hb4 zx x2; replace x3 := keepf hb4 zx x3
      replace x0 := keepc hb4 x0; replace x1 := keepc hb4 x1
      replace zx := lt_of_cell x0
      replace hB := bl_step hB hb4
      clear hb4
      go_wp2
      refine ⟨⟨k + 1, by omega, by simp, ?_, ?_⟩, by simp [intOf]; omega⟩
      · exact hid1 ⟨by simp [go_sem, *], by simp [go_sem, *], by simp [go_sem, *], by simp [go_sem, *]⟩
      · repeat (first | (with_reducible exact Below.refl _ _) | (with_reducible refine bl_alloc ?_ _) | (with_reducible refine Below.drew ?_) | (with_reducible refine bl_drewN ?_ _) | (with_reducible refine bl_set ?_ (by omega) _) | (with_reducible refine bl_step ?_ (by assumption)))
    · obtain rfl : k = 4 := by omega
      obtain ⟨x0, x1, x2, x3⟩ := HW.out
      go_wp2_with fail
      refine (fcut_any _ _).mono ?_
      rintro e w5 ⟨rfl, hb5⟩
      go_wp2
      go_ret
      exact ⟨rfl, bl_step hB hb5⟩
end Go.Proofs.Ytffhbfdbahdhoab
