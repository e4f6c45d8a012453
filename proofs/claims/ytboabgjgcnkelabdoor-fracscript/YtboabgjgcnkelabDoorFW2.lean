/- FRACTIONS: REDUCE REFUSED, CMP. -/
import Derived.Test.YtboabgjgcnkelabDoorFW1
namespace Go.Proofs.YtboabgjgcnkelabDoor
open Go.RowKit Go.Shelf
attribute [local go_sem ↓] Go.wp_at_zero Go.wp_at_succ

set_option maxRecDepth 100000 in
theorem reduce_no (n d : Int) (h : ¬ Fr n d) (w : World) :
    Calls Tryd.prog 15 #[fr n d] w fun e w' => e = .returned (.tuple #[fr 0 0, .int .i64 40]) ∧ Below w.heap.size w w' := by
  have h0 := chF_no h
  clear h
  go_enter Tryd.func15, Tryd.ntmps15
  go_wp2_with fail
  refine (fcheck_any n d _).mono ?_
  rintro e w1 ⟨rfl, hb1⟩
  rw [h0]
  have r0 := keepc hb1 (b := w.heap.size + 1) (o := 0) (v := .int .i64 0) (by simp [go_sem])
  have r1 := keepc hb1 (b := w.heap.size + 1) (o := 1) (v := .int .i64 0) (by simp [go_sem])
  have f0 := keepf hb1 (b := w.heap.size + 1) (o := 0) (by simp) (by simp [go_sem])
  have f1 := keepf hb1 (b := w.heap.size + 1) (o := 1) (by simp) (by simp [go_sem])
  have z := lt_of_cell r0
  go_wp2
  simp [bodyPost, results, Tryd.results15, go_sem, *]
  repeat (first | exact Below.refl _ _ | refine bl_alloc ?_ _ | refine Below.drew ?_ | refine bl_drewN ?_ _ | refine bl_set ?_ (by omega) _ | refine bl_step ?_ (by assumption))
/-- What Reduce answers. -/
def rnV (n d : Int) : Int := if Fr n d then rn n d else 0
def rdV (n d : Int) : Int := if Fr n d then rd n d else 0
theorem reduce_any (n d : Int) (w : World) :
    Calls Tryd.prog 15 #[fr n d] w fun e w' => e = .returned (.tuple #[fr (rnV n d) (rdV n d), .int .i64 (chF n d)]) ∧ Below w.heap.size w w' := by
  unfold rnV rdV chF
  by_cases h : Fr n d
  · simp only [if_pos h]; exact reduce_ok n d h w
  · simp only [if_neg h]; exact reduce_no n d h w
theorem isnan_any (x : Int) (w : World) :
    Calls Tryd.prog 49 #[.int .i64 x] w fun e w' => e = .returned (.bool false) ∧ w' = w := by
  go_enter Tryd.func49, Tryd.ntmps49
  go_wp2
  go_ret
  exact ⟨rfl, rfl⟩
theorem compare64_any (a b : Int) (w : World) :
    Calls Tryd.prog 35 #[.int .i64 a, .int .i64 b] w fun e w' => e = .returned (.int .i64 (cmpN a b)) ∧ w' = w := by
  rcases Int.lt_trichotomy a b with h | h | h
  · rw [cmp_lt h]
    go_enter Tryd.func35, Tryd.ntmps35
    go_wp2_with (go_at_call 49; refine (isnan_any _ _).mono ?_; rintro e w1 ⟨rfl, rfl⟩)
    go_ret
    exact ⟨rfl, rfl⟩
  · subst h
    rw [cmp_eq]
    go_enter Tryd.func35, Tryd.ntmps35
    go_wp2_with (go_at_call 49; refine (isnan_any _ _).mono ?_; rintro e w1 ⟨rfl, rfl⟩)
    go_ret
    exact ⟨rfl, rfl⟩
  · rw [cmp_gt h]
    go_enter Tryd.func35, Tryd.ntmps35
    go_wp2_with (go_at_call 49; refine (isnan_any _ _).mono ?_; rintro e w1 ⟨rfl, rfl⟩)
    go_ret
    exact ⟨rfl, rfl⟩
/-- What Cmp answers. -/
def cmF (n d p q : Int) : Int := if Fr n d ∧ Fr p q then cmpN (n * q) (p * d) else 0
def ceF (n d p q : Int) : Int := if Fr n d ∧ Fr p q then 0 else 40
theorem fprod_bd {n d p q : Int} (h1 : Fr n d) (h2 : Fr p q) : -2251799812636672 ≤ rn n d * rd p q ∧ rn n d * rd p q ≤ 2251799812636672 := by
  have a := rn_bd (n := n) (d := d) (B := 2147483647) (by have := h1.1; omega) h1.2.2.1 h1.2.2.2
  have b := rd_pos (n := p) (d := q) (by have := h2.1; omega)
  have c := rd_le (n := p) (d := q) (by have := h2.1; omega)
  have e := h2.2.1
  exact bd_mul (A := 2147483647) (B := 1048576) a ⟨by omega, by omega⟩
set_option maxRecDepth 100000 in
theorem fcmp_no1 (n d p q : Int) (h : ¬ Fr n d) (w : World) :
    Calls Tryd.prog 16 #[fr n d, fr p q] w fun e w' => e = .returned (.tuple #[.int .i64 0, .int .i64 40]) ∧ Below w.heap.size w w' := by
  go_enter Tryd.func16, Tryd.ntmps16
  go_wp2_with fail
  refine (reduce_no n d h _).mono ?_
  rintro e w1 ⟨rfl, hb1⟩
  have r0 := keepc hb1 (b := w.heap.size) (o := 0) (v := .int .i64 n) (by simp [go_sem])
  have r1 := keepc hb1 (b := w.heap.size) (o := 1) (v := .int .i64 d) (by simp [go_sem])
  have f0 := keepf hb1 (b := w.heap.size) (o := 0) (by simp <;> omega) (by simp [go_sem])
  have f1 := keepf hb1 (b := w.heap.size) (o := 1) (by simp <;> omega) (by simp [go_sem])
  have z := lt_of_cell r0
  go_wp2
  go_ret2
  refine ⟨rfl, ?_⟩
  repeat (first | exact Below.refl _ _ | refine bl_alloc ?_ _ | refine Below.drew ?_ | refine bl_drewN ?_ _ | refine bl_set ?_ (by omega) _ | refine bl_step ?_ (by assumption))
set_option maxRecDepth 100000 in
theorem fcmp_no2 (n d p q : Int) (h : Fr n d) (h2 : ¬ Fr p q) (w : World) :
    Calls Tryd.prog 16 #[fr n d, fr p q] w fun e w' => e = .returned (.tuple #[.int .i64 0, .int .i64 40]) ∧ Below w.heap.size w w' := by
  go_enter Tryd.func16, Tryd.ntmps16
  go_wp2_with fail
  refine (reduce_ok n d h _).mono ?_
  rintro e w1 ⟨rfl, hb1⟩
  have r0 := keepc hb1 (b := w.heap.size) (o := 0) (v := .int .i64 n) (by simp [go_sem])
  have r1 := keepc hb1 (b := w.heap.size) (o := 1) (v := .int .i64 d) (by simp [go_sem])
  have f0 := keepf hb1 (b := w.heap.size) (o := 0) (by simp <;> omega) (by simp [go_sem])
  have f1 := keepf hb1 (b := w.heap.size) (o := 1) (by simp <;> omega) (by simp [go_sem])
  have s0 := keepc hb1 (b := w.heap.size + 1) (o := 0) (v := .int .i64 p) (by simp [go_sem])
  have s1 := keepc hb1 (b := w.heap.size + 1) (o := 1) (v := .int .i64 q) (by simp [go_sem])
  have g0 := keepf hb1 (b := w.heap.size + 1) (o := 0) (by simp <;> omega) (by simp [go_sem])
  have g1 := keepf hb1 (b := w.heap.size + 1) (o := 1) (by simp <;> omega) (by simp [go_sem])
  have z := lt_of_cell r0
  have z1 := lt_of_cell s0
  have hB1 : Below w.heap.size w w1 := by repeat (first | exact Below.refl _ _ | refine bl_alloc ?_ _ | refine Below.drew ?_ | refine bl_drewN ?_ _ | refine bl_set ?_ (by omega) _ | refine bl_step ?_ (by assumption))
  clear hb1
  go_wp2_with fail
  refine gen_calls (fun W' => Below w.heap.size w W' ∧ W'.cell? ⟨w.heap.size + 1, 0, none⟩ = some (.int .i64 p) ∧ W'.cell? ⟨w.heap.size + 1, 1, none⟩ = some (.int .i64 q) ∧ W'.frozen? ⟨w.heap.size + 1, 0, none⟩ = false ∧ W'.frozen? ⟨w.heap.size + 1, 1, none⟩ = false) ⟨by repeat (first | exact Below.refl _ _ | refine bl_alloc ?_ _ | refine Below.drew ?_ | refine bl_drewN ?_ _ | refine bl_set ?_ (by omega) _ | refine bl_step ?_ (by assumption)), by simp [go_sem, *], by simp [go_sem, *], by simp [go_sem, *], by simp [go_sem, *]⟩ ?_
  rintro W2 ⟨B2, s0, s1, g0, g1⟩
  refine (reduce_no p q h2 _).mono ?_
  rintro e w3 ⟨rfl, hb3⟩
  replace z1 := lt_of_cell s0
  replace s0 := keepc hb3 s0; replace s1 := keepc hb3 s1
  replace g0 := keepf hb3 z1 g0; replace g1 := keepf hb3 z1 g1
  replace z1 := lt_of_cell s0
  go_wp2
  go_ret2
  refine ⟨rfl, ?_⟩
  repeat (first | exact Below.refl _ _ | refine bl_alloc ?_ _ | refine Below.drew ?_ | refine bl_drewN ?_ _ | refine bl_set ?_ (by omega) _ | refine bl_step ?_ (by assumption))
set_option maxRecDepth 100000 in
theorem fcmp_ok (n d p q : Int) (h : Fr n d) (h2 : Fr p q) (w : World) :
    Calls Tryd.prog 16 #[fr n d, fr p q] w fun e w' => e = .returned (.tuple #[.int .i64 (cmpN (n * q) (p * d)), .int .i64 0]) ∧ Below w.heap.size w w' := by
  have HC := hid1 (cmp_red (n := n) (d := d) (p := p) (q := q) (by have := h.1; omega) (by have := h2.1; omega))
  have m1 := fprod_bd h h2
  have m2 := fprod_bd h2 h
  have HR := hid1 (reduce_ok n d h)
  have HS := hid1 (reduce_ok p q h2)
  clear h h2
  obtain ⟨a, ea⟩ : ∃ a, rn n d = a := ⟨_, rfl⟩
  obtain ⟨b, eb⟩ : ∃ b, rd n d = b := ⟨_, rfl⟩
  obtain ⟨f, ef⟩ : ∃ f, rn p q = f := ⟨_, rfl⟩
  obtain ⟨g, eg⟩ : ∃ g, rd p q = g := ⟨_, rfl⟩
  rw [ea, eb, ef, eg] at HC
  rw [ea, eb] at HR
  rw [ef, eg] at HS
  rw [ea, eg] at m1
  rw [ef, eb] at m2
  clear ea eb ef eg
  obtain ⟨m1a, m1b⟩ := m1
  obtain ⟨m2a, m2b⟩ := m2
  rw [← HC.out]
  clear HC
  have e1 : wrap64 (a * g) = a * g := by unfold wrap64; omega
  have e2 : wrap64 (f * b) = f * b := by unfold wrap64; omega
  clear m1a m1b m2a m2b
  go_enter Tryd.func16, Tryd.ntmps16
  go_wp2_with fail
  refine (HR.out _).mono ?_
  rintro e w1 ⟨rfl, hb1⟩
  have r0 := keepc hb1 (b := w.heap.size) (o := 0) (v := .int .i64 n) (by simp [go_sem])
  have r1 := keepc hb1 (b := w.heap.size) (o := 1) (v := .int .i64 d) (by simp [go_sem])
  have f0 := keepf hb1 (b := w.heap.size) (o := 0) (by simp <;> omega) (by simp [go_sem])
  have f1 := keepf hb1 (b := w.heap.size) (o := 1) (by simp <;> omega) (by simp [go_sem])
  have s0 := keepc hb1 (b := w.heap.size + 1) (o := 0) (v := .int .i64 p) (by simp [go_sem])
  have s1 := keepc hb1 (b := w.heap.size + 1) (o := 1) (v := .int .i64 q) (by simp [go_sem])
  have g0 := keepf hb1 (b := w.heap.size + 1) (o := 0) (by simp <;> omega) (by simp [go_sem])
  have g1 := keepf hb1 (b := w.heap.size + 1) (o := 1) (by simp <;> omega) (by simp [go_sem])
  have z := lt_of_cell r0
  have z1 := lt_of_cell s0
  have hB1 : Below w.heap.size w w1 := by repeat (first | exact Below.refl _ _ | refine bl_alloc ?_ _ | refine Below.drew ?_ | refine bl_drewN ?_ _ | refine bl_set ?_ (by omega) _ | refine bl_step ?_ (by assumption))
  clear hb1
  go_wp2_with fail
  refine gen_calls (fun W' => Below w.heap.size w W' ∧ W'.cell? ⟨w.heap.size, 0, none⟩ = some (.int .i64 a) ∧ W'.cell? ⟨w.heap.size, 1, none⟩ = some (.int .i64 b) ∧ W'.cell? ⟨w.heap.size + 1, 0, none⟩ = some (.int .i64 p) ∧ W'.cell? ⟨w.heap.size + 1, 1, none⟩ = some (.int .i64 q) ∧ W'.frozen? ⟨w.heap.size + 1, 0, none⟩ = false ∧ W'.frozen? ⟨w.heap.size + 1, 1, none⟩ = false) ⟨by repeat (first | exact Below.refl _ _ | refine bl_alloc ?_ _ | refine Below.drew ?_ | refine bl_drewN ?_ _ | refine bl_set ?_ (by omega) _ | refine bl_step ?_ (by assumption)), by simp [go_sem, *], by simp [go_sem, *], by simp [go_sem, *], by simp [go_sem, *], by simp [go_sem, *], by simp [go_sem, *]⟩ ?_
  clear r0 r1 s0 s1 g0 g1 f0 f1 z z1
  rintro W2 ⟨B2, r0, r1, s0, s1, g0, g1⟩
  refine (HS.out _).mono ?_
  rintro e w3 ⟨rfl, hb3⟩
  have z1 := lt_of_cell s0
  replace r0 := keepc hb3 r0; replace r1 := keepc hb3 r1
  replace s0 := keepc hb3 s0; replace s1 := keepc hb3 s1
  replace g0 := keepf hb3 z1 g0; replace g1 := keepf hb3 z1 g1
  replace z1 := lt_of_cell s0
  have z0 := lt_of_cell r0
  have hB3 : Below w.heap.size w w3 := by repeat (first | exact Below.refl _ _ | refine bl_alloc ?_ _ | refine Below.drew ?_ | refine bl_drewN ?_ _ | refine bl_set ?_ (by omega) _ | refine bl_step ?_ (by assumption))
  clear hB1 B2 hb3
  by_cases hab : a = f
  · subst hab
    by_cases hbg : b = g
    · subst hbg
      go_wp2
      go_ret2
      refine ⟨by rw [cmp_eq]; rfl, ?_⟩
      repeat (first | exact Below.refl _ _ | refine bl_alloc ?_ _ | refine Below.drew ?_ | refine bl_drewN ?_ _ | refine bl_set ?_ (by omega) _ | refine bl_step ?_ (by assumption))
    · have hbg' : ¬ g = b := fun e => hbg e.symm
      go_wp2_with (go_at_call 35; refine (compare64_any _ _ _).mono ?_; rintro e w4 ⟨rfl, rfl⟩)
      go_ret2
      refine ⟨by simp [*], ?_⟩
      repeat (first | exact Below.refl _ _ | refine bl_alloc ?_ _ | refine Below.drew ?_ | refine bl_drewN ?_ _ | refine bl_set ?_ (by omega) _ | refine bl_step ?_ (by assumption))
  · have hab' : ¬ f = a := fun e => hab e.symm
    go_wp2_with (go_at_call 35; refine (compare64_any _ _ _).mono ?_; rintro e w4 ⟨rfl, rfl⟩)
    go_ret2
    refine ⟨by simp [*], ?_⟩
    repeat (first | exact Below.refl _ _ | refine bl_alloc ?_ _ | refine Below.drew ?_ | refine bl_drewN ?_ _ | refine bl_set ?_ (by omega) _ | refine bl_step ?_ (by assumption))
theorem fcmp_any (n d p q : Int) (w : World) :
    Calls Tryd.prog 16 #[fr n d, fr p q] w fun e w' => e = .returned (.tuple #[.int .i64 (cmF n d p q), .int .i64 (ceF n d p q)]) ∧ Below w.heap.size w w' := by
  unfold cmF ceF
  by_cases h : Fr n d
  · by_cases h2 : Fr p q
    · simp only [if_pos (show Fr n d ∧ Fr p q from ⟨h, h2⟩)]; exact fcmp_ok n d p q h h2 w
    · simp only [if_neg (show ¬ (Fr n d ∧ Fr p q) from fun k => h2 k.2)]; exact fcmp_no2 n d p q h h2 w
  · simp only [if_neg (show ¬ (Fr n d ∧ Fr p q) from fun k => h k.1)]; exact fcmp_no1 n d p q h w
end Go.Proofs.YtboabgjgcnkelabDoor
