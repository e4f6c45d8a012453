/- PACKAGE fold: Plus, Check. -/
import Derived.Test.YtffhbfdbahdhoabHW1
import Derived.Deep.RegionHeld3
import Derived.Deep.DeepCutAuto
namespace Go.Proofs.Ytffhbfdbahdhoab
open Go.RowKit Go.Shelf Wd
attribute [local go_sem ↓] Go.wp_at_zero Go.wp_at_succ

/-- A threshold. -/
abbrev th (m t : Int) : Value := .agg #[.int .i64 m, .int .i64 t]
/-- Two numbers in a block. -/
def C2 (w : World) (b : Nat) (m t : Int) : Prop := w.cell? ⟨b, 0, none⟩ = some (.int .i64 m) ∧ w.cell? ⟨b, 1, none⟩ = some (.int .i64 t)
theorem C2.keep {w w' : World} {b : Nat} {m t : Int} (h : C2 w b m t) (hb : Below w.heap.size w w') : C2 w' b m t := ⟨keepc hb h.1, keepc hb h.2⟩
theorem atLeast_any (x t : Int) (w : World) :
    Calls Try.prog 32 #[.int .i64 x, .int .i64 t] w fun e w' => e = .returned (.bool (decide (t ≤ x))) ∧ w' = w := by
  go_enter Try.func32, Try.ntmps32
  go_wp2
  go_ret
  exact ⟨rfl, rfl⟩
theorem atMost_any (x t : Int) (w : World) :
    Calls Try.prog 33 #[.int .i64 x, .int .i64 t] w fun e w' => e = .returned (.bool (decide (x ≤ t))) ∧ w' = w := by
  go_enter Try.func33, Try.ntmps33
  go_wp2
  go_ret
  exact ⟨rfl, rfl⟩
theorem always_any (x t : Int) (w : World) :
    Calls Try.prog 34 #[.int .i64 x, .int .i64 t] w fun e w' => e = .returned (.bool true) ∧ w' = w := by
  go_enter Try.func34, Try.ntmps34
  go_wp2
  go_ret
  exact ⟨rfl, rfl⟩
theorem never_any (x t : Int) (w : World) :
    Calls Try.prog 31 #[.int .i64 x, .int .i64 t] w fun e w' => e = .returned (.bool false) ∧ w' = w := by
  go_enter Try.func31, Try.ntmps31
  go_wp2
  go_ret
  exact ⟨rfl, rfl⟩
set_option maxRecDepth 100000 in
theorem plus_atLeast (m t x l h g b : Int) (HM : Hid (∀ w : World, Calls Try.prog 23 #[.int .i64 m] w fun e w' => e = .returned (mdv (fnv 32) l h g b) ∧ Below w.heap.size w w')) (w : World) :
    Calls Try.prog 11 #[th m t, .int .i64 x] w fun e w' => e = .returned (.bool (decide (t ≤ x))) ∧ Below w.heap.size w w' := by
  have i0 : ∀ W, (Instr.field 54 (mdv (fnv 32) l h g b) 0).run Try.prog W = .ok (.func (.func 32) #[] #[]) W := fun _ => by kernel_rfl
  go_enter Try.func11, Try.ntmps11
  go_upto_region 1 with fail
  refine gen_worldH (fun X => Hid (C2 X w.heap.size m t ∧ Below w.heap.size w X)) (hid1 (And.intro ⟨by simp [go_sem], by simp [go_sem]⟩ (by repeat (first | (with_reducible exact Below.refl _ _) | (with_reducible refine bl_alloc ?_ _) | (with_reducible refine Below.drew ?_) | (with_reducible refine bl_drewN ?_ _) | (with_reducible refine bl_set ?_ (by omega) _) | (with_reducible refine bl_step ?_ (by assumption)))))) ?_
  intro X HX
  have c0 := HX.out.1.1
  have c1 := HX.out.1.2
  have HB := hid1 HX.out.2
  clear HX
  go_region_held3 (fun W => W.cell? ⟨w.heap.size, 0, none⟩ = some (.int .i64 m) ∧ W.cell? ⟨w.heap.size, 1, none⟩ = some (.int .i64 t)) (((try dsimp only); exact ⟨keepc (W := X) (by repeat (first | (with_reducible exact Below.refl _ _) | (with_reducible refine bl_alloc ?_ _) | (with_reducible refine Below.drew ?_) | (with_reducible refine bl_drewN ?_ _) | (with_reducible refine bl_set ?_ (by omega) _) | (with_reducible refine bl_step ?_ (by assumption)))) c0, keepc (W := X) (by repeat (first | (with_reducible exact Below.refl _ _) | (with_reducible refine bl_alloc ?_ _) | (with_reducible refine Below.drew ?_) | (with_reducible refine bl_drewN ?_ _) | (with_reducible refine bl_set ?_ (by omega) _) | (with_reducible refine bl_step ?_ (by assumption)))) c1⟩))
    (first
      | (go_at_call 23; (with_reducible refine (HM.out _).mono ?_); rintro e w1 ⟨rfl, hb1⟩)
      | (go_at_call 32; (with_reducible refine (atLeast_any _ _ _).mono ?_); rintro e w2 ⟨rfl, rfl⟩))
  all_goals go_wp2_with fail
  all_goals go_ret
  all_goals exact ⟨rfl, bl_step HB.out (by repeat (first | (with_reducible exact Below.refl _ _) | (with_reducible refine bl_alloc ?_ _) | (with_reducible refine Below.drew ?_) | (with_reducible refine bl_drewN ?_ _) | (with_reducible refine bl_set ?_ (by omega) _) | (with_reducible refine bl_step ?_ (by assumption))))⟩
set_option maxRecDepth 100000 in
theorem plus_atMost (m t x l h g b : Int) (HM : Hid (∀ w : World, Calls Try.prog 23 #[.int .i64 m] w fun e w' => e = .returned (mdv (fnv 33) l h g b) ∧ Below w.heap.size w w')) (w : World) :
    Calls Try.prog 11 #[th m t, .int .i64 x] w fun e w' => e = .returned (.bool (decide (x ≤ t))) ∧ Below w.heap.size w w' := by
  have i0 : ∀ W, (Instr.field 54 (mdv (fnv 33) l h g b) 0).run Try.prog W = .ok (.func (.func 33) #[] #[]) W := fun _ => by kernel_rfl
  go_enter Try.func11, Try.ntmps11
  go_upto_region 1 with fail
  refine gen_worldH (fun X => Hid (C2 X w.heap.size m t ∧ Below w.heap.size w X)) (hid1 (And.intro ⟨by simp [go_sem], by simp [go_sem]⟩ (by repeat (first | (with_reducible exact Below.refl _ _) | (with_reducible refine bl_alloc ?_ _) | (with_reducible refine Below.drew ?_) | (with_reducible refine bl_drewN ?_ _) | (with_reducible refine bl_set ?_ (by omega) _) | (with_reducible refine bl_step ?_ (by assumption)))))) ?_
  intro X HX
  have c0 := HX.out.1.1
  have c1 := HX.out.1.2
  have HB := hid1 HX.out.2
  clear HX
  go_region_held3 (fun W => W.cell? ⟨w.heap.size, 0, none⟩ = some (.int .i64 m) ∧ W.cell? ⟨w.heap.size, 1, none⟩ = some (.int .i64 t)) (((try dsimp only); exact ⟨keepc (W := X) (by repeat (first | (with_reducible exact Below.refl _ _) | (with_reducible refine bl_alloc ?_ _) | (with_reducible refine Below.drew ?_) | (with_reducible refine bl_drewN ?_ _) | (with_reducible refine bl_set ?_ (by omega) _) | (with_reducible refine bl_step ?_ (by assumption)))) c0, keepc (W := X) (by repeat (first | (with_reducible exact Below.refl _ _) | (with_reducible refine bl_alloc ?_ _) | (with_reducible refine Below.drew ?_) | (with_reducible refine bl_drewN ?_ _) | (with_reducible refine bl_set ?_ (by omega) _) | (with_reducible refine bl_step ?_ (by assumption)))) c1⟩))
    (first
      | (go_at_call 23; (with_reducible refine (HM.out _).mono ?_); rintro e w1 ⟨rfl, hb1⟩)
      | (go_at_call 33; (with_reducible refine (atMost_any _ _ _).mono ?_); rintro e w2 ⟨rfl, rfl⟩))
  all_goals go_wp2_with fail
  all_goals go_ret
  all_goals exact ⟨rfl, bl_step HB.out (by repeat (first | (with_reducible exact Below.refl _ _) | (with_reducible refine bl_alloc ?_ _) | (with_reducible refine Below.drew ?_) | (with_reducible refine bl_drewN ?_ _) | (with_reducible refine bl_set ?_ (by omega) _) | (with_reducible refine bl_step ?_ (by assumption))))⟩
set_option maxRecDepth 100000 in
theorem plus_always (m t x l h g b : Int) (HM : Hid (∀ w : World, Calls Try.prog 23 #[.int .i64 m] w fun e w' => e = .returned (mdv (fnv 34) l h g b) ∧ Below w.heap.size w w')) (w : World) :
    Calls Try.prog 11 #[th m t, .int .i64 x] w fun e w' => e = .returned (.bool true) ∧ Below w.heap.size w w' := by
  have i0 : ∀ W, (Instr.field 54 (mdv (fnv 34) l h g b) 0).run Try.prog W = .ok (.func (.func 34) #[] #[]) W := fun _ => by kernel_rfl
  go_enter Try.func11, Try.ntmps11
  go_upto_region 1 with fail
  refine gen_worldH (fun X => Hid (C2 X w.heap.size m t ∧ Below w.heap.size w X)) (hid1 (And.intro ⟨by simp [go_sem], by simp [go_sem]⟩ (by repeat (first | (with_reducible exact Below.refl _ _) | (with_reducible refine bl_alloc ?_ _) | (with_reducible refine Below.drew ?_) | (with_reducible refine bl_drewN ?_ _) | (with_reducible refine bl_set ?_ (by omega) _) | (with_reducible refine bl_step ?_ (by assumption)))))) ?_
  intro X HX
  have c0 := HX.out.1.1
  have c1 := HX.out.1.2
  have HB := hid1 HX.out.2
  clear HX
  go_region_held3 (fun W => W.cell? ⟨w.heap.size, 0, none⟩ = some (.int .i64 m) ∧ W.cell? ⟨w.heap.size, 1, none⟩ = some (.int .i64 t)) (((try dsimp only); exact ⟨keepc (W := X) (by repeat (first | (with_reducible exact Below.refl _ _) | (with_reducible refine bl_alloc ?_ _) | (with_reducible refine Below.drew ?_) | (with_reducible refine bl_drewN ?_ _) | (with_reducible refine bl_set ?_ (by omega) _) | (with_reducible refine bl_step ?_ (by assumption)))) c0, keepc (W := X) (by repeat (first | (with_reducible exact Below.refl _ _) | (with_reducible refine bl_alloc ?_ _) | (with_reducible refine Below.drew ?_) | (with_reducible refine bl_drewN ?_ _) | (with_reducible refine bl_set ?_ (by omega) _) | (with_reducible refine bl_step ?_ (by assumption)))) c1⟩))
    (first
      | (go_at_call 23; (with_reducible refine (HM.out _).mono ?_); rintro e w1 ⟨rfl, hb1⟩)
      | (go_at_call 34; (with_reducible refine (always_any _ _ _).mono ?_); rintro e w2 ⟨rfl, rfl⟩))
  all_goals go_wp2_with fail
  all_goals go_ret
  all_goals exact ⟨rfl, bl_step HB.out (by repeat (first | (with_reducible exact Below.refl _ _) | (with_reducible refine bl_alloc ?_ _) | (with_reducible refine Below.drew ?_) | (with_reducible refine bl_drewN ?_ _) | (with_reducible refine bl_set ?_ (by omega) _) | (with_reducible refine bl_step ?_ (by assumption))))⟩
set_option maxRecDepth 100000 in
theorem plus_never (m t x l h g b : Int) (HM : Hid (∀ w : World, Calls Try.prog 23 #[.int .i64 m] w fun e w' => e = .returned (mdv (fnv 31) l h g b) ∧ Below w.heap.size w w')) (w : World) :
    Calls Try.prog 11 #[th m t, .int .i64 x] w fun e w' => e = .returned (.bool false) ∧ Below w.heap.size w w' := by
  have i0 : ∀ W, (Instr.field 54 (mdv (fnv 31) l h g b) 0).run Try.prog W = .ok (.func (.func 31) #[] #[]) W := fun _ => by kernel_rfl
  go_enter Try.func11, Try.ntmps11
  go_upto_region 1 with fail
  refine gen_worldH (fun X => Hid (C2 X w.heap.size m t ∧ Below w.heap.size w X)) (hid1 (And.intro ⟨by simp [go_sem], by simp [go_sem]⟩ (by repeat (first | (with_reducible exact Below.refl _ _) | (with_reducible refine bl_alloc ?_ _) | (with_reducible refine Below.drew ?_) | (with_reducible refine bl_drewN ?_ _) | (with_reducible refine bl_set ?_ (by omega) _) | (with_reducible refine bl_step ?_ (by assumption)))))) ?_
  intro X HX
  have c0 := HX.out.1.1
  have c1 := HX.out.1.2
  have HB := hid1 HX.out.2
  clear HX
  go_region_held3 (fun W => W.cell? ⟨w.heap.size, 0, none⟩ = some (.int .i64 m) ∧ W.cell? ⟨w.heap.size, 1, none⟩ = some (.int .i64 t)) (((try dsimp only); exact ⟨keepc (W := X) (by repeat (first | (with_reducible exact Below.refl _ _) | (with_reducible refine bl_alloc ?_ _) | (with_reducible refine Below.drew ?_) | (with_reducible refine bl_drewN ?_ _) | (with_reducible refine bl_set ?_ (by omega) _) | (with_reducible refine bl_step ?_ (by assumption)))) c0, keepc (W := X) (by repeat (first | (with_reducible exact Below.refl _ _) | (with_reducible refine bl_alloc ?_ _) | (with_reducible refine Below.drew ?_) | (with_reducible refine bl_drewN ?_ _) | (with_reducible refine bl_set ?_ (by omega) _) | (with_reducible refine bl_step ?_ (by assumption)))) c1⟩))
    (first
      | (go_at_call 23; (with_reducible refine (HM.out _).mono ?_); rintro e w1 ⟨rfl, hb1⟩)
      | (go_at_call 31; (with_reducible refine (never_any _ _ _).mono ?_); rintro e w2 ⟨rfl, rfl⟩))
  all_goals go_wp2_with fail
  all_goals go_ret
  all_goals exact ⟨rfl, bl_step HB.out (by repeat (first | (with_reducible exact Below.refl _ _) | (with_reducible refine bl_alloc ?_ _) | (with_reducible refine Below.drew ?_) | (with_reducible refine bl_drewN ?_ _) | (with_reducible refine bl_set ?_ (by omega) _) | (with_reducible refine bl_step ?_ (by assumption))))⟩
theorem plus_any (m t x : Int) (w : World) :
    Calls Try.prog 11 #[th m t, .int .i64 x] w fun e w' => e = .returned (.bool (plT m t x)) ∧ Below w.heap.size w w' := by
  have HM := hid1 (mode_any m)
  by_cases h1 : m = 1
  · subst h1; rw [plT_1]; exact plus_atLeast 1 t x _ _ _ _ HM w
  by_cases h2 : m = 2
  · subst h2; rw [plT_2]; exact plus_atMost 2 t x _ _ _ _ HM w
  by_cases h3 : m = 3
  · subst h3; rw [plT_3]; exact plus_always 3 t x _ _ _ _ HM w
  rw [plT_no h1 h2 h3]
  have e : mdF m = 31 := by simp [mdF, h1, h2, h3]
  rw [e] at HM
  exact plus_never m t x _ _ _ _ HM w
theorem ck_is (m t : Int) : ckT m t = if t < mdL m then 191 else if mdH m < t then 191 else 0 := by
  unfold ckT okT mdL mdH
  by_cases h1 : m = 1
  · subst h1; simp; split <;> split <;> (try split) <;> omega
  by_cases h2 : m = 2
  · subst h2; simp; split <;> split <;> (try split) <;> omega
  by_cases h3 : m = 3
  · subst h3; simp; split <;> split <;> (try split) <;> omega
  by_cases h4 : m = 4
  · subst h4; simp; split <;> split <;> (try split) <;> omega
  simp [h1, h2, h3, h4]; omega
set_option maxRecDepth 100000 in
theorem fcheck_core (m t l h g b : Int) (k : FuncId) (HM : Hid (∀ w : World, Calls Try.prog 23 #[.int .i64 m] w fun e w' => e = .returned (mdv (fnv k) l h g b) ∧ Below w.heap.size w w')) (w : World) :
    Calls Try.prog 10 #[th m t] w fun e w' => e = .returned (.int .i64 (if t < l then 191 else if h < t then 191 else 0)) ∧ Below w.heap.size w w' := by
  by_cases h1 : t < l
  · rw [if_pos h1]
    go_enter Try.func10, Try.ntmps10
    go_wp2_with fail
    refine (HM.out _).mono ?_
    rintro e w1 ⟨rfl, hb1⟩
    have c1 := keepc hb1 (b := w.heap.size) (o := 1) (v := .int .i64 t) (by simp [go_sem])
    have z := lt_of_cell c1
    go_wp2
    go_ret
    exact ⟨rfl, by repeat (first | (with_reducible exact Below.refl _ _) | (with_reducible refine bl_alloc ?_ _) | (with_reducible refine Below.drew ?_) | (with_reducible refine bl_drewN ?_ _) | (with_reducible refine bl_set ?_ (by omega) _) | (with_reducible refine bl_step ?_ (by assumption)))⟩
  · rw [if_neg h1]
    have h1' : decide (t < l) = false := decide_eq_false h1
    by_cases h2 : h < t
    · rw [if_pos h2]
      go_enter Try.func10, Try.ntmps10
      go_wp2_with fail
      refine (HM.out _).mono ?_
      rintro e w1 ⟨rfl, hb1⟩
      have c1 := keepc hb1 (b := w.heap.size) (o := 1) (v := .int .i64 t) (by simp [go_sem])
      have z := lt_of_cell c1
      go_wp2
      go_ret
      exact ⟨rfl, by repeat (first | (with_reducible exact Below.refl _ _) | (with_reducible refine bl_alloc ?_ _) | (with_reducible refine Below.drew ?_) | (with_reducible refine bl_drewN ?_ _) | (with_reducible refine bl_set ?_ (by omega) _) | (with_reducible refine bl_step ?_ (by assumption)))⟩
    · rw [if_neg h2]
      have h2' : decide (h < t) = false := decide_eq_false h2
      go_enter Try.func10, Try.ntmps10
      go_wp2_with fail
      refine (HM.out _).mono ?_
      rintro e w1 ⟨rfl, hb1⟩
      have c1 := keepc hb1 (b := w.heap.size) (o := 1) (v := .int .i64 t) (by simp [go_sem])
      have z := lt_of_cell c1
      go_wp2
      go_ret
      exact ⟨rfl, by repeat (first | (with_reducible exact Below.refl _ _) | (with_reducible refine bl_alloc ?_ _) | (with_reducible refine Below.drew ?_) | (with_reducible refine bl_drewN ?_ _) | (with_reducible refine bl_set ?_ (by omega) _) | (with_reducible refine bl_step ?_ (by assumption)))⟩
theorem fck_any (m t : Int) (w : World) :
    Calls Try.prog 10 #[th m t] w fun e w' => e = .returned (.int .i64 (ckT m t)) ∧ Below w.heap.size w w' := by
  rw [ck_is]
  exact fcheck_core m t _ _ _ _ _ (hid1 (mode_any m)) w
end Go.Proofs.Ytffhbfdbahdhoab
