/- FRACLEAST, WALKED. -/
import Derived.Test.YtboabgjgcnkelaaDoorFW12
namespace Go.Proofs.YtboabgjgcnkelaaDoor
open Go.RowKit Go.Shelf
attribute [local go_sem ↓] Go.wp_at_zero Go.wp_at_succ

theorem quo_bd {A k : Int} (hA : 0 ≤ A) (hk : 0 < k) : 0 ≤ A.tdiv k ∧ A.tdiv k ≤ A ∧ A.tdiv k * k ≤ A := by
  rw [Int.tdiv_eq_ediv_of_nonneg hA]
  refine ⟨Int.ediv_nonneg hA (by omega), Int.ediv_le_self k hA, Int.ediv_mul_le A (by omega)⟩
theorem quo_neg (A k : Int) : (-A).tdiv k = -(A.tdiv k) := Int.neg_tdiv ..
set_option maxHeartbeats 3200000 in
set_option maxRecDepth 100000 in
theorem fleast_core (n0 d0 n1 d1 k fn fd gn gd p q u v d : Int) (T0 : Hid (∀ w : World, Calls Tryd.prog 10 #[fr n0 d0] w fun e w' => e = .returned (fr fn fd) ∧ Below w.heap.size w w'))
    (T1 : Hid (∀ w : World, Calls Tryd.prog 10 #[fr n1 d1] w fun e w' => e = .returned (fr gn gd) ∧ Below w.heap.size w w'))
    (R1 : Hid (∀ w : World, Calls Tryd.prog 14 #[fr fn fd] w fun e w' => e = .returned (.tuple #[fr p q, .int .i64 0]) ∧ Below w.heap.size w w'))
    (R2 : Hid (∀ w : World, Calls Tryd.prog 14 #[fr gn gd] w fun e w' => e = .returned (.tuple #[fr u v, .int .i64 0]) ∧ Below w.heap.size w w'))
    (R3 : Hid (∀ w : World, Calls Tryd.prog 14 #[fr p q] w fun e w' => e = .returned (.tuple #[fr p q, .int .i64 0]) ∧ Below w.heap.size w w'))
    (C1 : Hid (∀ w : World, Calls Tryd.prog 11 #[fr fn fd, fr p q] w fun e w' => e = .returned (.tuple #[.int .i64 0, .int .i64 0]) ∧ Below w.heap.size w w'))
    (C2 : Hid (∀ w : World, Calls Tryd.prog 11 #[fr fn fd, fr gn gd] w fun e w' => e = .returned (.tuple #[.int .i64 d, .int .i64 0]) ∧ Below w.heap.size w w'))
    (G : Hid (∀ w : World, Calls Tryd.prog 15 #[.int .i64 p, .int .i64 q] w fun e w' => e = .returned (.int .i64 1) ∧ w' = w))
    (hq : 1 ≤ q) (F : Hid ((d = 0 ∧ p = u ∧ q = v) ∨ ((d == 0) = false ∧ ¬ p = u) ∨ ((d == 0) = false ∧ ¬ q = v)))
    (S : Hid (2 ≤ k → k ≤ 1000 → fn ≤ Int.tdiv 2147483647 k → Int.tdiv (-2147483647) k ≤ fn → fd ≤ Int.tdiv 1048576 k → wrap64 (fn * k) = fn * k ∧ wrap64 (fd * k) = fd * k ∧ ∀ w : World, Calls Tryd.prog 14 #[fr (fn * k) (fd * k)] w fun e w' => e = .returned (.tuple #[fr p q, .int .i64 0]) ∧ Below w.heap.size w w'))
    (w : World) (L : LaidP w) :
    Calls Tryd.prog 5 #[fr n0 d0, fr n1 d1, .int .i64 k] w fun e w' => e = .returned (.bool true) ∧ Below w.heap.size w w' := by
  have HL := hid1 L
  clear L
  go_enter Tryd.func5, Tryd.ntmps5
  go_wp2_with fail
  refine gen_calls (fun W' => Below w.heap.size w W' ∧ Hid (Fc W' w.heap.size n0 d0) ∧ Hid (Fc W' (w.heap.size + 1) n1 d1)) ⟨by repeat (first | (with_reducible exact Below.refl _ _) | (with_reducible refine bl_alloc ?_ _) | (with_reducible refine Below.drew ?_) | (with_reducible refine bl_drewN ?_ _) | (with_reducible refine bl_set ?_ (by omega) _) | (with_reducible refine bl_step ?_ (by assumption))), hid1 ⟨by simp [go_sem], by simp [go_sem]⟩, hid1 ⟨by simp [go_sem], by simp [go_sem]⟩⟩ ?_
  rintro W ⟨B0, P0, P1⟩
  refine (fbegun_any _ (HL.out.on B0)).mono ?_
  rintro e w1 ⟨rfl, hb1⟩
  replace P0 := hid1 (P0.out.keep hb1); replace P1 := hid1 (P1.out.keep hb1)
  have B1 : Below w.heap.size w w1 := by repeat (first | (with_reducible exact Below.refl _ _) | (with_reducible refine bl_alloc ?_ _) | (with_reducible refine Below.drew ?_) | (with_reducible refine bl_drewN ?_ _) | (with_reducible refine bl_set ?_ (by omega) _) | (with_reducible refine bl_step ?_ (by assumption)))
  clear hb1 B0
  obtain ⟨q0, q1⟩ := P0.out
  go_wp2_with fail
  refine (T0.out _).mono ?_
  rintro e w2 ⟨rfl, hb2⟩
  replace P1 := hid1 (P1.out.keep hb2)
  have B2 : Below w.heap.size w w2 := by repeat (first | (with_reducible exact Below.refl _ _) | (with_reducible refine bl_alloc ?_ _) | (with_reducible refine Below.drew ?_) | (with_reducible refine bl_drewN ?_ _) | (with_reducible refine bl_set ?_ (by omega) _) | (with_reducible refine bl_step ?_ (by assumption)))
  clear hb2 B1 q0 q1 P0
  obtain ⟨q0, q1⟩ := P1.out
  have z := lt_of_cell q0
  go_wp2_with fail
  refine gen_calls (fun W' => Below w.heap.size w W' ∧ Hid (Fc W' w2.heap.size fn fd)) ⟨by repeat (first | (with_reducible exact Below.refl _ _) | (with_reducible refine bl_alloc ?_ _) | (with_reducible refine Below.drew ?_) | (with_reducible refine bl_drewN ?_ _) | (with_reducible refine bl_set ?_ (by omega) _) | (with_reducible refine bl_step ?_ (by assumption))), hid1 ⟨by simp [go_sem], by simp [go_sem]⟩⟩ ?_
  rintro W3 ⟨B3, F0⟩
  clear q0 q1 P1 B2 z
  refine (T1.out _).mono ?_
  rintro e w4 ⟨rfl, hb4⟩
  replace F0 := hid1 (F0.out.keep hb4)
  have B4 : Below w.heap.size w w4 := by repeat (first | (with_reducible exact Below.refl _ _) | (with_reducible refine bl_alloc ?_ _) | (with_reducible refine Below.drew ?_) | (with_reducible refine bl_drewN ?_ _) | (with_reducible refine bl_set ?_ (by omega) _) | (with_reducible refine bl_step ?_ (by assumption)))
  clear hb4 B3
  obtain ⟨q0, q1⟩ := F0.out
  have z := lt_of_cell q0
  go_wp2_with fail
  refine gen_calls (fun W' => Below w.heap.size w W' ∧ Below w4.heap.size w4 W' ∧ Hid (Fc W' w4.heap.size gn gd)) ⟨by repeat (first | (with_reducible exact Below.refl _ _) | (with_reducible refine bl_alloc ?_ _) | (with_reducible refine Below.drew ?_) | (with_reducible refine bl_drewN ?_ _) | (with_reducible refine bl_set ?_ (by omega) _) | (with_reducible refine bl_step ?_ (by assumption))), by repeat (first | (with_reducible exact Below.refl _ _) | (with_reducible refine bl_alloc ?_ _) | (with_reducible refine Below.drew ?_) | (with_reducible refine bl_drewN ?_ _) | (with_reducible refine bl_set ?_ (by omega) _) | (with_reducible refine bl_step ?_ (by assumption))), hid1 ⟨by simp [go_sem], by simp [go_sem]⟩⟩ ?_
  rintro W5 ⟨B5, b5, G0⟩
  clear q0 q1 B4 z
  replace F0 := hid1 (F0.out.keep b5)
  clear b5
  refine (R1.out _).mono ?_
  rintro e w6 ⟨rfl, hb6⟩
  replace F0 := hid1 (F0.out.keep hb6); replace G0 := hid1 (G0.out.keep hb6)
  have B6 : Below w.heap.size w w6 := by repeat (first | (with_reducible exact Below.refl _ _) | (with_reducible refine bl_alloc ?_ _) | (with_reducible refine Below.drew ?_) | (with_reducible refine bl_drewN ?_ _) | (with_reducible refine bl_set ?_ (by omega) _) | (with_reducible refine bl_step ?_ (by assumption)))
  clear hb6 B5
  obtain ⟨g0, g1⟩ := G0.out
  have zg := lt_of_cell g0
  go_wp2_with fail
  refine gen_calls (fun W' => Below w.heap.size w W' ∧ Below w6.heap.size w6 W' ∧ Hid (Fc W' w6.heap.size p q)) ⟨by repeat (first | (with_reducible exact Below.refl _ _) | (with_reducible refine bl_alloc ?_ _) | (with_reducible refine Below.drew ?_) | (with_reducible refine bl_drewN ?_ _) | (with_reducible refine bl_set ?_ (by omega) _) | (with_reducible refine bl_step ?_ (by assumption))), by repeat (first | (with_reducible exact Below.refl _ _) | (with_reducible refine bl_alloc ?_ _) | (with_reducible refine Below.drew ?_) | (with_reducible refine bl_drewN ?_ _) | (with_reducible refine bl_set ?_ (by omega) _) | (with_reducible refine bl_step ?_ (by assumption))), hid1 ⟨by simp [go_sem], by simp [go_sem]⟩⟩ ?_
  rintro W7 ⟨B7, b7, A0⟩
  clear g0 g1 zg B6
  replace F0 := hid1 (F0.out.keep b7); replace G0 := hid1 (G0.out.keep b7)
  clear b7
  refine (R2.out _).mono ?_
  rintro e w8 ⟨rfl, hb8⟩
  replace F0 := hid1 (F0.out.keep hb8); replace G0 := hid1 (G0.out.keep hb8); replace A0 := hid1 (A0.out.keep hb8)
  have B8 : Below w.heap.size w w8 := by repeat (first | (with_reducible exact Below.refl _ _) | (with_reducible refine bl_alloc ?_ _) | (with_reducible refine Below.drew ?_) | (with_reducible refine bl_drewN ?_ _) | (with_reducible refine bl_set ?_ (by omega) _) | (with_reducible refine bl_step ?_ (by assumption)))
  clear hb8 B7
  obtain ⟨a0, a1⟩ := A0.out
  have za := lt_of_cell a0
  go_wp2_with fail
  refine gen_calls (fun W' => Below w.heap.size w W' ∧ Below w8.heap.size w8 W' ∧ Hid (Fc W' w8.heap.size u v)) ⟨by repeat (first | (with_reducible exact Below.refl _ _) | (with_reducible refine bl_alloc ?_ _) | (with_reducible refine Below.drew ?_) | (with_reducible refine bl_drewN ?_ _) | (with_reducible refine bl_set ?_ (by omega) _) | (with_reducible refine bl_step ?_ (by assumption))), by repeat (first | (with_reducible exact Below.refl _ _) | (with_reducible refine bl_alloc ?_ _) | (with_reducible refine Below.drew ?_) | (with_reducible refine bl_drewN ?_ _) | (with_reducible refine bl_set ?_ (by omega) _) | (with_reducible refine bl_step ?_ (by assumption))), hid1 ⟨by simp [go_sem], by simp [go_sem]⟩⟩ ?_
  rintro W9 ⟨B9, b9, S0⟩
  clear a0 a1 za B8
  replace F0 := hid1 (F0.out.keep b9); replace G0 := hid1 (G0.out.keep b9); replace A0 := hid1 (A0.out.keep b9)
  clear b9
  refine (R3.out _).mono ?_
  rintro e w10 ⟨rfl, hb10⟩
  replace F0 := hid1 (F0.out.keep hb10); replace G0 := hid1 (G0.out.keep hb10); replace A0 := hid1 (A0.out.keep hb10); replace S0 := hid1 (S0.out.keep hb10)
  have B10 : Below w.heap.size w w10 := by repeat (first | (with_reducible exact Below.refl _ _) | (with_reducible refine bl_alloc ?_ _) | (with_reducible refine Below.drew ?_) | (with_reducible refine bl_drewN ?_ _) | (with_reducible refine bl_set ?_ (by omega) _) | (with_reducible refine bl_step ?_ (by assumption)))
  clear hb10 B9
  obtain ⟨f0, f1⟩ := F0.out
  obtain ⟨a0, a1⟩ := A0.out
  have zf := lt_of_cell f0
  have za := lt_of_cell a0
  go_wp2_with fail
  refine gen_calls (fun W' => Below w.heap.size w W' ∧ Below w10.heap.size w10 W' ∧ Hid (Fc W' w10.heap.size p q)) ⟨by repeat (first | (with_reducible exact Below.refl _ _) | (with_reducible refine bl_alloc ?_ _) | (with_reducible refine Below.drew ?_) | (with_reducible refine bl_drewN ?_ _) | (with_reducible refine bl_set ?_ (by omega) _) | (with_reducible refine bl_step ?_ (by assumption))), by repeat (first | (with_reducible exact Below.refl _ _) | (with_reducible refine bl_alloc ?_ _) | (with_reducible refine Below.drew ?_) | (with_reducible refine bl_drewN ?_ _) | (with_reducible refine bl_set ?_ (by omega) _) | (with_reducible refine bl_step ?_ (by assumption))), hid1 ⟨by simp [go_sem], by simp [go_sem]⟩⟩ ?_
  rintro W11 ⟨B11, b11, D0⟩
  clear f0 f1 a0 a1 zf za B10
  replace F0 := hid1 (F0.out.keep b11); replace G0 := hid1 (G0.out.keep b11); replace A0 := hid1 (A0.out.keep b11); replace S0 := hid1 (S0.out.keep b11)
  clear b11
  refine (C1.out _).mono ?_
  rintro e w12 ⟨rfl, hb12⟩
  replace F0 := hid1 (F0.out.keep hb12); replace G0 := hid1 (G0.out.keep hb12); replace A0 := hid1 (A0.out.keep hb12); replace S0 := hid1 (S0.out.keep hb12); replace D0 := hid1 (D0.out.keep hb12)
  have B12 : Below w.heap.size w w12 := by repeat (first | (with_reducible exact Below.refl _ _) | (with_reducible refine bl_alloc ?_ _) | (with_reducible refine Below.drew ?_) | (with_reducible refine bl_drewN ?_ _) | (with_reducible refine bl_set ?_ (by omega) _) | (with_reducible refine bl_step ?_ (by assumption)))
  clear hb12 B11
  obtain ⟨f0, f1⟩ := F0.out
  obtain ⟨g0, g1⟩ := G0.out
  go_wp2_with fail
  refine (C2.out _).mono ?_
  rintro e w13 ⟨rfl, hb13⟩
  replace F0 := hid1 (F0.out.keep hb13); replace A0 := hid1 (A0.out.keep hb13); replace S0 := hid1 (S0.out.keep hb13); replace D0 := hid1 (D0.out.keep hb13)
  have B13 : Below w.heap.size w w13 := by repeat (first | (with_reducible exact Below.refl _ _) | (with_reducible refine bl_alloc ?_ _) | (with_reducible refine Below.drew ?_) | (with_reducible refine bl_drewN ?_ _) | (with_reducible refine bl_set ?_ (by omega) _) | (with_reducible refine bl_step ?_ (by assumption)))
  clear hb13 B12 f0 f1 g0 g1 G0
  obtain ⟨a0, a1⟩ := A0.out
  obtain ⟨s0, s1⟩ := S0.out
  obtain ⟨e0, e1⟩ := D0.out
  clear T0 T1 R1 R2 R3 C1 C2
  obtain ⟨f0, f1⟩ := F0.out
  rcases F.out with ⟨rfl, rfl, rfl⟩ | ⟨hd, hp⟩ | ⟨hd, hp⟩
  all_goals go_upto_region 13 with (go_at_call 15; refine (G.out _).mono ?_; rintro e w14 ⟨rfl, rfl⟩)
  all_goals clear a0 a1 s0 s1 e0 e1 F G
  all_goals
    by_cases k1 : k < 2
    · go_quiet (fail)
      go_wp2; go_ret; exact ⟨rfl, by repeat (first | (with_reducible exact Below.refl _ _) | (with_reducible refine bl_alloc ?_ _) | (with_reducible refine Below.drew ?_) | (with_reducible refine bl_drewN ?_ _) | (with_reducible refine bl_set ?_ (by omega) _) | (with_reducible refine bl_step ?_ (by assumption)))⟩
    by_cases k2 : 1000 < k
    · go_quiet (fail)
      go_wp2; go_ret; exact ⟨rfl, by repeat (first | (with_reducible exact Below.refl _ _) | (with_reducible refine bl_alloc ?_ _) | (with_reducible refine Below.drew ?_) | (with_reducible refine bl_drewN ?_ _) | (with_reducible refine bl_set ?_ (by omega) _) | (with_reducible refine bl_step ?_ (by assumption)))⟩
    obtain ⟨qa, qb, _⟩ := quo_bd (A := 2147483647) (k := k) (by decide) (by omega)
    obtain ⟨qc, qd, _⟩ := quo_bd (A := 1048576) (k := k) (by decide) (by omega)
    have qe := quo_neg 2147483647 k
    have qf : -2147483647 ≤ Int.tdiv (-2147483647) k ∧ Int.tdiv (-2147483647) k ≤ 0 := by rw [qe]; omega
    obtain ⟨qg, qh⟩ := qf
    clear qe
    obtain ⟨x1, ex1⟩ : ∃ x, Int.tdiv 2147483647 k = x := ⟨_, rfl⟩
    obtain ⟨x2, ex2⟩ : ∃ x, Int.tdiv (-2147483647) k = x := ⟨_, rfl⟩
    obtain ⟨x3, ex3⟩ : ∃ x, Int.tdiv 1048576 k = x := ⟨_, rfl⟩
    rw [ex1, ex2, ex3] at S
    rw [ex1] at qa qb
    rw [ex2] at qg qh
    rw [ex3] at qc qd
    have k0 : ¬ k = 0 := by omega
    have k0' : (k == 0) = false := by simpa using k0
    by_cases k3 : x1 < fn
    · go_quiet (fail)
      go_wp2; go_ret; exact ⟨rfl, by repeat (first | (with_reducible exact Below.refl _ _) | (with_reducible refine bl_alloc ?_ _) | (with_reducible refine Below.drew ?_) | (with_reducible refine bl_drewN ?_ _) | (with_reducible refine bl_set ?_ (by omega) _) | (with_reducible refine bl_step ?_ (by assumption)))⟩
    by_cases k4 : fn < x2
    · go_quiet (fail)
      go_wp2; go_ret; exact ⟨rfl, by repeat (first | (with_reducible exact Below.refl _ _) | (with_reducible refine bl_alloc ?_ _) | (with_reducible refine Below.drew ?_) | (with_reducible refine bl_drewN ?_ _) | (with_reducible refine bl_set ?_ (by omega) _) | (with_reducible refine bl_step ?_ (by assumption)))⟩
    by_cases k5 : x3 < fd
    · go_quiet (fail)
      go_wp2; go_ret; exact ⟨rfl, by repeat (first | (with_reducible exact Below.refl _ _) | (with_reducible refine bl_alloc ?_ _) | (with_reducible refine Below.drew ?_) | (with_reducible refine bl_drewN ?_ _) | (with_reducible refine bl_set ?_ (by omega) _) | (with_reducible refine bl_step ?_ (by assumption)))⟩
    obtain ⟨y1, y2, HY⟩ := S.out (by omega) (by omega) (by omega) (by omega) (by omega)
    replace HY := hid1 HY
    go_quiet (fail)
    go_wp2_with fail
    refine (HY.out _).mono ?_
    rintro e w15 ⟨rfl, hb15⟩
    have b15 : Below w14.heap.size w14 w15 := by repeat (first | (with_reducible exact Below.refl _ _) | (with_reducible refine bl_alloc ?_ _) | (with_reducible refine Below.drew ?_) | (with_reducible refine bl_drewN ?_ _) | (with_reducible refine bl_set ?_ (by omega) _) | (with_reducible refine bl_step ?_ (by assumption)))
    replace A0 := hid1 (A0.out.keep b15)
    have B15 : Below w.heap.size w w15 := by repeat (first | (with_reducible exact Below.refl _ _) | (with_reducible refine bl_alloc ?_ _) | (with_reducible refine Below.drew ?_) | (with_reducible refine bl_drewN ?_ _) | (with_reducible refine bl_set ?_ (by omega) _) | (with_reducible refine bl_step ?_ (by assumption)))
    clear hb15 b15 B13 HY f0 f1 F0
    obtain ⟨a0, a1⟩ := A0.out
    have za := lt_of_cell a0
    go_wp2
    go_ret
    exact ⟨rfl, by repeat (first | (with_reducible exact Below.refl _ _) | (with_reducible refine bl_alloc ?_ _) | (with_reducible refine Below.drew ?_) | (with_reducible refine bl_drewN ?_ _) | (with_reducible refine bl_set ?_ (by omega) _) | (with_reducible refine bl_step ?_ (by assumption)))⟩
end Go.Proofs.YtboabgjgcnkelaaDoor
