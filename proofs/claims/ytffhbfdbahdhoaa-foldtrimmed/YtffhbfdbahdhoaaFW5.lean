/- PLUS OF THE PROGRAM. -/
import Derived.Test.YtffhbfdbahdhoaaFW4
namespace Go.Proofs.Ytffhbfdbahdhoaa.Wd
open Go.RowKit Go.Shelf
attribute [local go_sem ↓] Go.wp_at_zero Go.wp_at_succ

/-- What Plus answers. -/
def plV (gn gd bn bd mn md sn sd x : Int) : Bool := decide (noE gn gd bn bd mn md sn sd = 0) && decide (Sm x) && decide (0 ≤ nv gn gd bn bd mn md sn sd x)
def plE (gn gd bn bd mn md sn sd x : Int) : Int := if noE gn gd bn bd mn md sn sd = 0 then (if Sm x then 0 else 1) else noE gn gd bn bd mn md sn sd
theorem noE_ok {gn gd bn bd mn md sn sd : Int} (h : noE gn gd bn bd mn md sn sd = 0) : Fr gn gd ∧ Fr bn bd ∧ Fr mn md ∧ Fr sn sd ∧ 1 ≤ sn := by
  unfold noE at h
  split at h
  · rename_i k
    split at h
    · omega
    · exact ⟨k.1, k.2.1, k.2.2.1, k.2.2.2, by omega⟩
  · omega
theorem rng_of {n A : Int} (h : -A ≤ n ∧ n ≤ A) (hA : A ≤ 10000000000000000000000000000000000000) : Rng n := by unfold Rng; omega
theorem i64_of {n A : Int} (h : -A ≤ n ∧ n ≤ A) (hA : A ≤ 9000000000000000000) : I64 n := by unfold I64; omega
theorem cmp_zero (n : Int) : decide (0 ≤ cmpN n 0) = decide (0 ≤ n) := by
  by_cases h : 0 ≤ n
  · rw [decide_eq_true h]; refine decide_eq_true ?_; unfold cmpN; split <;> (try split) <;> omega
  · rw [decide_eq_false h]; refine decide_eq_false ?_; unfold cmpN; split <;> (try split) <;> omega
set_option maxRecDepth 100000 in
theorem plus_no1 (gn gd bn bd mn md sn sd x : Int) (h : ¬ noE gn gd bn bd mn md sn sd = 0) (w : World) :
    Calls Try.prog 28 #[nm gn gd bn bd mn md sn sd, .int .i64 x] w fun e w' => e = .returned (.tuple #[.bool false, .int .i64 (noE gn gd bn bd mn md sn sd)]) ∧ Below w.heap.size w w' := by
  have HN := hid1 (norm_any gn gd bn bd mn md sn sd)
  obtain ⟨v, ev⟩ : ∃ v, noE gn gd bn bd mn md sn sd = v := ⟨_, rfl⟩
  rw [ev] at HN h ⊢
  clear ev
  go_enter Try.func28, Try.ntmps28
  go_wp2_with fail
  refine (HN.out _).mono ?_
  rintro e w1 ⟨rfl, hb1⟩
  go_wp2
  go_ret2
  refine ⟨rfl, ?_⟩
  repeat (first | exact Below.refl _ _ | refine bl_alloc ?_ _ | refine Below.drew ?_ | refine bl_drewN ?_ _ | refine bl_set ?_ (by omega) _ | refine bl_step ?_ (by assumption))
set_option maxRecDepth 100000 in
theorem plus_no2 (gn gd bn bd mn md sn sd x : Int) (h : noE gn gd bn bd mn md sn sd = 0) (h2 : ¬ Sm x) (w : World) :
    Calls Try.prog 28 #[nm gn gd bn bd mn md sn sd, .int .i64 x] w fun e w' => e = .returned (.tuple #[.bool false, .int .i64 1]) ∧ Below w.heap.size w w' := by
  have HN := hid1 (norm_any gn gd bn bd mn md sn sd)
  have HI := hid1 (inReach_any x)
  rw [h] at HN
  rw [decide_eq_false h2] at HI
  clear h h2
  go_enter Try.func28, Try.ntmps28
  go_wp2_with fail
  refine (HN.out _).mono ?_
  rintro e w1 ⟨rfl, hb1⟩
  go_wp2_with fail
  refine (HI.out _).mono ?_
  rintro e w2 ⟨rfl, rfl⟩
  go_wp2
  go_ret2
  refine ⟨rfl, ?_⟩
  repeat (first | exact Below.refl _ _ | refine bl_alloc ?_ _ | refine Below.drew ?_ | refine bl_drewN ?_ _ | refine bl_set ?_ (by omega) _ | refine bl_step ?_ (by assumption))
set_option maxHeartbeats 800000 in
set_option maxRecDepth 100000 in
theorem plus_core (gn gd bn bd mn md sn sd x k L R : Int) (ek : x * md - mn = k) (hN : ∀ w : World, Calls Try.prog 12 #[nm gn gd bn bd mn md sn sd] w fun e w' => e = .returned (.int .i64 0) ∧ Below w.heap.size w w')
    (hI : ∀ w : World, Calls Try.prog 33 #[.int .i64 x] w fun e w' => e = .returned (.bool true) ∧ w' = w)
    (k1 : -2251801961168895 ≤ x * md - mn) (k2 : x * md - mn ≤ 2251801961168895) (m1 : -2251799812636672 ≤ x * md) (m2 : x * md ≤ 2251799812636672)
    (hL : ∀ (w : World) (g : Nat), F4 w g gn k sd bd → Calls Try.prog 37 #[.slice (some ⟨g, 0, none⟩) 4 4] w fun e w' => e = .returned (wv L) ∧ Below w.heap.size w w')
    (hR : ∀ (w : World) (g : Nat), F4 w g bn gd md sn → Calls Try.prog 37 #[.slice (some ⟨g, 0, none⟩) 4 4] w fun e w' => e = .returned (wv R) ∧ Below w.heap.size w w')
    (hS : Rng (L + R)) (w : World) :
    Calls Try.prog 28 #[nm gn gd bn bd mn md sn sd, .int .i64 x] w fun e w' => e = .returned (.tuple #[.bool (decide (0 ≤ L + R)), .int .i64 0]) ∧ Below w.heap.size w w' := by
  have HN := hid1 hN
  have HI := hid1 hI
  have HL := hid1 hL
  have HR := hid1 hR
  have HA := hid1 (wadd_ok L R hS)
  have HO := hid1 (of_any 0 (by unfold I64; omega))
  have HC := hid1 (cmp_any (L + R) 0)
  have HZ := hid1 (cmp_zero (L + R))
  clear hN hI hL hR hS
  obtain ⟨s, es⟩ : ∃ s, L + R = s := ⟨_, rfl⟩
  rw [es] at HA HC HZ ⊢
  clear es
  have e1 : wrap64 (x * md) = x * md := by unfold wrap64; omega
  have e2 : wrap64 (x * md - mn) = k := by unfold wrap64; omega
  clear k1 k2 m1 m2 ek
  obtain ⟨m, em⟩ : ∃ m, x * md = m := ⟨_, rfl⟩
  rw [em] at e1 e2
  go_enter Try.func28, Try.ntmps28
  go_wp2_with fail
  refine (HN.out _).mono ?_
  rintro e w1 ⟨rfl, hb1⟩
  have HM : Hid (Nm w1 w.heap.size gn gd bn bd mn md sn sd) := hid1 (Nm.keep (w := w.alloc _) ⟨by simp [go_sem], by simp [go_sem], by simp [go_sem], by simp [go_sem], by simp [go_sem], by simp [go_sem], by simp [go_sem], by simp [go_sem]⟩ hb1)
  have B1 : Below w.heap.size w w1 := by repeat (first | exact Below.refl _ _ | refine bl_alloc ?_ _ | refine Below.drew ?_ | refine bl_drewN ?_ _ | refine bl_set ?_ (by omega) _ | refine bl_step ?_ (by assumption))
  clear hb1
  go_wp2_with fail
  refine (HI.out _).mono ?_
  rintro e w2 ⟨rfl, rfl⟩
  obtain ⟨c0, c1, c2, c3, c4, c5, c6, c7⟩ := HM.out
  have z := lt_of_cell c0
  go_wp2_with fail
  refine (HL.out _ _ ⟨by simp [go_sem], by simp [go_sem], by simp [go_sem], by simp [go_sem]⟩).mono ?_
  rintro e w3 ⟨rfl, hb3⟩
  have H3 : Below w2.heap.size w2 w3 := by repeat (first | exact Below.refl _ _ | refine bl_alloc ?_ _ | refine Below.drew ?_ | refine bl_drewN ?_ _ | refine bl_set ?_ (by omega) _ | refine bl_step ?_ (by assumption))
  replace HM := hid1 (HM.out.keep H3)
  have B3 : Below w.heap.size w w3 := by repeat (first | exact Below.refl _ _ | refine bl_alloc ?_ _ | refine Below.drew ?_ | refine bl_drewN ?_ _ | refine bl_set ?_ (by omega) _ | refine bl_step ?_ (by assumption))
  clear c0 c1 c2 c3 c4 c5 c6 c7 z hb3 H3 B1
  obtain ⟨c0, c1, c2, c3, c4, c5, c6, c7⟩ := HM.out
  have z := lt_of_cell c0
  go_wp2_with fail
  refine gen_calls (fun W' => Below w.heap.size w W' ∧ Hid (Wc W' w3.heap.size L) ∧ F4 W' (w3.heap.size + 1) bn gd md sn) ⟨by repeat (first | exact Below.refl _ _ | refine bl_alloc ?_ _ | refine Below.drew ?_ | refine bl_drewN ?_ _ | refine bl_set ?_ (by omega) _ | refine bl_step ?_ (by assumption)), hid1 ⟨by simp [go_sem], by simp [go_sem], by simp [go_sem], by simp [go_sem]⟩, by simp [go_sem], by simp [go_sem], by simp [go_sem], by simp [go_sem]⟩ ?_
  clear c0 c1 c2 c3 c4 c5 c6 c7 z HM B3
  rintro W4 ⟨B4, HW, hF⟩
  refine (HR.out _ _ hF).mono ?_
  rintro e w5 ⟨rfl, hb5⟩
  replace HW := hid1 (HW.out.keep hb5)
  have B5 : Below w.heap.size w w5 := by repeat (first | exact Below.refl _ _ | refine bl_alloc ?_ _ | refine Below.drew ?_ | refine bl_drewN ?_ _ | refine bl_set ?_ (by omega) _ | refine bl_step ?_ (by assumption))
  clear hb5 hF B4
  obtain ⟨a0, a1, _, _⟩ := HW.out
  have z := lt_of_cell a0
  go_wp2_with fail
  refine gen_calls (fun W' => Below w.heap.size w W') (by repeat (first | exact Below.refl _ _ | refine bl_alloc ?_ _ | refine Below.drew ?_ | refine bl_drewN ?_ _ | refine bl_set ?_ (by omega) _ | refine bl_step ?_ (by assumption))) ?_
  clear a0 a1 z HW B5
  rintro W6 B6
  refine (HA.out _).mono ?_
  rintro e w7 ⟨rfl, hb7⟩
  have B7 : Below w.heap.size w w7 := by repeat (first | exact Below.refl _ _ | refine bl_alloc ?_ _ | refine Below.drew ?_ | refine bl_drewN ?_ _ | refine bl_set ?_ (by omega) _ | refine bl_step ?_ (by assumption))
  clear hb7 B6
  go_upto_region 9 with fail
  refine gen_world (fun W' => Below w.heap.size w W' ∧ W'.cell? ⟨w7.heap.size, 0, none⟩ = some (.int .i64 (hiOf s)) ∧ W'.cell? ⟨w7.heap.size, 1, none⟩ = some (.int .u64 (loOf s))) ⟨by repeat (first | exact Below.refl _ _ | refine bl_alloc ?_ _ | refine Below.drew ?_ | refine bl_drewN ?_ _ | refine bl_set ?_ (by omega) _ | refine bl_step ?_ (by assumption)), by simp [go_sem], by simp [go_sem]⟩ ?_
  rintro W8 ⟨B8, d0, d1⟩
  go_region_held3 (fun X => X.cell? ⟨w7.heap.size, 0, none⟩ = some (.int .i64 (hiOf s)) ∧ X.cell? ⟨w7.heap.size, 1, none⟩ = some (.int .u64 (loOf s))) (((try dsimp only); first | (simp [go_sem, *]; done) | exact ⟨keepc (W := W8) (by repeat (first | exact Below.refl _ _ | refine bl_alloc ?_ _ | refine Below.drew ?_ | refine bl_drewN ?_ _ | refine bl_set ?_ (by omega) _ | refine bl_step ?_ (by assumption))) d0, keepc (W := W8) (by repeat (first | exact Below.refl _ _ | refine bl_alloc ?_ _ | refine Below.drew ?_ | refine bl_drewN ?_ _ | refine bl_set ?_ (by omega) _ | refine bl_step ?_ (by assumption))) d1⟩))
    (first
      | (go_at_call 40; refine (HO.out _).mono ?_; rintro e w9 ⟨rfl, hb9⟩)
      | (go_at_call 39; refine (HC.out _).mono ?_; rintro e w10 ⟨rfl, hb10⟩))
  all_goals go_wp2_with fail
  all_goals go_ret2
  all_goals refine ⟨by first | rfl | (rw [HZ.out]; rfl) | (simp [HZ.out]; done), ?_⟩
  all_goals repeat (first | exact Below.refl _ _ | refine bl_alloc ?_ _ | refine Below.drew ?_ | refine bl_drewN ?_ _ | refine bl_set ?_ (by omega) _ | refine bl_step ?_ (by assumption))
end Go.Proofs.Ytffhbfdbahdhoaa.Wd
