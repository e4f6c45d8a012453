/- FRACORDER, WALKED. -/
import Derived.Test.YtboabgjgcnkelaaDoorFW7
namespace Go.Proofs.YtboabgjgcnkelaaDoor
open Go.RowKit Go.Shelf
attribute [local go_sem ↓] Go.wp_at_zero Go.wp_at_succ

theorem cross_le {a b c d e f : Int} (hb : 0 < b) (hd : 0 < d) (hf : 0 < f) (h1 : a * d ≤ c * b) (h2 : c * f ≤ e * d) : a * f ≤ e * b := by
  have k1 : a * d * f ≤ c * b * f := Int.mul_le_mul_of_nonneg_right h1 (by omega)
  have k2 : c * f * b ≤ e * d * b := Int.mul_le_mul_of_nonneg_right h2 (by omega)
  have e1 : c * b * f = c * f * b := by ac_rfl
  have e2 : d * (a * f) = a * d * f := by ac_rfl
  have e3 : d * (e * b) = e * d * b := by ac_rfl
  have k3 : d * (a * f) ≤ d * (e * b) := by omega
  exact Int.le_of_mul_le_mul_left k3 hd
/-- Two cells. -/
def Fc (w : World) (b : Nat) (n d : Int) : Prop := w.cell? ⟨b, 0, none⟩ = some (.int .i64 n) ∧ w.cell? ⟨b, 1, none⟩ = some (.int .i64 d)
theorem Fc.keep {w w' : World} {b : Nat} {n d : Int} (h : Fc w b n d) (hb : Below w.heap.size w w') : Fc w' b n d := ⟨keepc hb h.1, keepc hb h.2⟩
theorem cmF_ok {n d p q : Int} (h1 : Fr n d) (h2 : Fr p q) : cmF n d p q = cmpN (n * q) (p * d) := by unfold cmF; exact if_pos ⟨h1, h2⟩
theorem ceF_ok {n d p q : Int} (h1 : Fr n d) (h2 : Fr p q) : ceF n d p q = 0 := by unfold ceF; exact if_pos ⟨h1, h2⟩
theorem cross_bd {n d p q : Int} (h1 : Fr n d) (h2 : Fr p q) : -2251799812636672 ≤ n * q ∧ n * q ≤ 2251799812636672 :=
  bd_mul (A := 2147483647) (B := 1048576) h1.2.2 ⟨by have := h2.1; omega, h2.2.1⟩
theorem order_facts {fn fd gn gd hn hd : Int} (h1 : Fr fn fd) (h2 : Fr gn gd) (h3 : Fr hn hd) (a b c d : Int) (ea : cmpN (fn * gd) (gn * fd) = a) (eb : cmpN (gn * fd) (fn * gd) = b) (ec : cmpN (gn * hd) (hn * gd) = c) (ed : cmpN (fn * hd) (hn * fd) = d) :
    b = -a ∧ (a ≤ 0 → c ≤ 0 → d ≤ 0) ∧ (0 ≤ a → 0 ≤ c → 0 ≤ d) ∧ ((a = -1 ∧ fn * gd < gn * fd) ∨ (a = 0 ∧ fn * gd = gn * fd) ∨ (a = 1 ∧ gn * fd < fn * gd)) ∧ (c = -1 ∨ c = 0 ∨ c = 1) := by
  subst ea eb ec ed
  have p1 := h1.1; have p2 := h2.1; have p3 := h3.1
  refine ⟨cmp_turn _ _, ?_, ?_, ?_, ?_⟩
  · intro x y
    rw [cmp_le] at x y ⊢
    exact cross_le (by omega) (by omega) (by omega) x y
  · intro x y
    rw [cmp_ge] at x y ⊢
    exact cross_le (by omega) (by omega) (by omega) y x
  · unfold cmpN; split
    · left; exact ⟨rfl, by assumption⟩
    · split
      · right; left; exact ⟨rfl, by assumption⟩
      · right; right; exact ⟨rfl, by omega⟩
  · unfold cmpN; split
    · left; rfl
    · split
      · right; left; rfl
      · right; right; rfl
set_option maxHeartbeats 1600000 in
set_option maxRecDepth 100000 in
theorem forder_core (n0 d0 n1 d1 n2 d2 fn fd gn gd hn hd a b c d : Int) (T0 : Hid (∀ w : World, Calls Tryd.prog 10 #[fr n0 d0] w fun e w' => e = .returned (fr fn fd) ∧ Below w.heap.size w w'))
    (T1 : Hid (∀ w : World, Calls Tryd.prog 10 #[fr n1 d1] w fun e w' => e = .returned (fr gn gd) ∧ Below w.heap.size w w'))
    (T2 : Hid (∀ w : World, Calls Tryd.prog 10 #[fr n2 d2] w fun e w' => e = .returned (fr hn hd) ∧ Below w.heap.size w w'))
    (C1 : Hid (∀ w : World, Calls Tryd.prog 11 #[fr fn fd, fr gn gd] w fun e w' => e = .returned (.tuple #[.int .i64 a, .int .i64 0]) ∧ Below w.heap.size w w'))
    (C2 : Hid (∀ w : World, Calls Tryd.prog 11 #[fr gn gd, fr fn fd] w fun e w' => e = .returned (.tuple #[.int .i64 b, .int .i64 0]) ∧ Below w.heap.size w w'))
    (C3 : Hid (∀ w : World, Calls Tryd.prog 11 #[fr gn gd, fr hn hd] w fun e w' => e = .returned (.tuple #[.int .i64 c, .int .i64 0]) ∧ Below w.heap.size w w'))
    (C4 : Hid (∀ w : World, Calls Tryd.prog 11 #[fr fn fd, fr hn hd] w fun e w' => e = .returned (.tuple #[.int .i64 d, .int .i64 0]) ∧ Below w.heap.size w w'))
    (k1 : wrap64 (fn * gd) = fn * gd) (k2 : wrap64 (gn * fd) = gn * fd)
    (F : Hid (b = -a ∧ (a ≤ 0 → c ≤ 0 → d ≤ 0) ∧ (0 ≤ a → 0 ≤ c → 0 ≤ d) ∧ ((a = -1 ∧ fn * gd < gn * fd) ∨ (a = 0 ∧ fn * gd = gn * fd) ∨ (a = 1 ∧ gn * fd < fn * gd)) ∧ (c = -1 ∨ c = 0 ∨ c = 1)))
    (w : World) (L : LaidP w) :
    Calls Tryd.prog 3 #[fr n0 d0, fr n1 d1, fr n2 d2] w fun e w' => e = .returned (.bool true) ∧ Below w.heap.size w w' := by
  have HL := hid1 L
  clear L
  go_enter Tryd.func3, Tryd.ntmps3
  go_wp2_with fail
  refine gen_calls (fun W' => Below w.heap.size w W' ∧ Hid (Fc W' w.heap.size n0 d0) ∧ Hid (Fc W' (w.heap.size + 1) n1 d1) ∧ Hid (Fc W' (w.heap.size + 2) n2 d2)) ⟨by repeat (first | exact Below.refl _ _ | refine bl_alloc ?_ _ | refine Below.drew ?_ | refine bl_drewN ?_ _ | refine bl_set ?_ (by omega) _ | refine bl_step ?_ (by assumption)), hid1 ⟨by simp [go_sem], by simp [go_sem]⟩, hid1 ⟨by simp [go_sem], by simp [go_sem]⟩, hid1 ⟨by simp [go_sem], by simp [go_sem]⟩⟩ ?_
  rintro W ⟨B0, P0, P1, P2⟩
  refine (fbegun_any _ (HL.out.on B0)).mono ?_
  rintro e w1 ⟨rfl, hb1⟩
  replace P0 := hid1 (P0.out.keep hb1); replace P1 := hid1 (P1.out.keep hb1); replace P2 := hid1 (P2.out.keep hb1)
  have B1 : Below w.heap.size w w1 := by repeat (first | exact Below.refl _ _ | refine bl_alloc ?_ _ | refine Below.drew ?_ | refine bl_drewN ?_ _ | refine bl_set ?_ (by omega) _ | refine bl_step ?_ (by assumption))
  clear hb1 B0
  obtain ⟨q0, q1⟩ := P0.out
  go_wp2_with fail
  refine (T0.out _).mono ?_
  rintro e w2 ⟨rfl, hb2⟩
  replace P1 := hid1 (P1.out.keep hb2); replace P2 := hid1 (P2.out.keep hb2)
  have B2 : Below w.heap.size w w2 := by repeat (first | exact Below.refl _ _ | refine bl_alloc ?_ _ | refine Below.drew ?_ | refine bl_drewN ?_ _ | refine bl_set ?_ (by omega) _ | refine bl_step ?_ (by assumption))
  clear hb2 B1 q0 q1 P0
  obtain ⟨q0, q1⟩ := P1.out
  have z := lt_of_cell q0
  go_wp2_with fail
  refine gen_calls (fun W' => Below w.heap.size w W' ∧ Below w2.heap.size w2 W' ∧ Hid (Fc W' w2.heap.size fn fd)) ⟨by repeat (first | exact Below.refl _ _ | refine bl_alloc ?_ _ | refine Below.drew ?_ | refine bl_drewN ?_ _ | refine bl_set ?_ (by omega) _ | refine bl_step ?_ (by assumption)), by repeat (first | exact Below.refl _ _ | refine bl_alloc ?_ _ | refine Below.drew ?_ | refine bl_drewN ?_ _ | refine bl_set ?_ (by omega) _ | refine bl_step ?_ (by assumption)), hid1 ⟨by simp [go_sem], by simp [go_sem]⟩⟩ ?_
  rintro W3 ⟨B3, b3, F0⟩
  clear q0 q1 P1 B2 z
  replace P2 := hid1 (P2.out.keep b3)
  clear b3
  refine (T1.out _).mono ?_
  rintro e w4 ⟨rfl, hb4⟩
  replace P2 := hid1 (P2.out.keep hb4); replace F0 := hid1 (F0.out.keep hb4)
  have B4 : Below w.heap.size w w4 := by repeat (first | exact Below.refl _ _ | refine bl_alloc ?_ _ | refine Below.drew ?_ | refine bl_drewN ?_ _ | refine bl_set ?_ (by omega) _ | refine bl_step ?_ (by assumption))
  clear hb4 B3
  obtain ⟨q0, q1⟩ := P2.out
  have z := lt_of_cell q0
  go_wp2_with fail
  refine gen_calls (fun W' => Below w.heap.size w W' ∧ Below w4.heap.size w4 W' ∧ Hid (Fc W' w4.heap.size gn gd)) ⟨by repeat (first | exact Below.refl _ _ | refine bl_alloc ?_ _ | refine Below.drew ?_ | refine bl_drewN ?_ _ | refine bl_set ?_ (by omega) _ | refine bl_step ?_ (by assumption)), by repeat (first | exact Below.refl _ _ | refine bl_alloc ?_ _ | refine Below.drew ?_ | refine bl_drewN ?_ _ | refine bl_set ?_ (by omega) _ | refine bl_step ?_ (by assumption)), hid1 ⟨by simp [go_sem], by simp [go_sem]⟩⟩ ?_
  rintro W5 ⟨B5, b5, G0⟩
  clear q0 q1 P2 B4 z
  replace F0 := hid1 (F0.out.keep b5)
  clear b5
  refine (T2.out _).mono ?_
  rintro e w6 ⟨rfl, hb6⟩
  replace F0 := hid1 (F0.out.keep hb6); replace G0 := hid1 (G0.out.keep hb6)
  have B6 : Below w.heap.size w w6 := by repeat (first | exact Below.refl _ _ | refine bl_alloc ?_ _ | refine Below.drew ?_ | refine bl_drewN ?_ _ | refine bl_set ?_ (by omega) _ | refine bl_step ?_ (by assumption))
  clear hb6 B5
  obtain ⟨f0, f1⟩ := F0.out
  obtain ⟨g0, g1⟩ := G0.out
  have zf := lt_of_cell f0
  have zg := lt_of_cell g0
  go_wp2_with fail
  refine gen_calls (fun W' => Below w.heap.size w W' ∧ Below w6.heap.size w6 W' ∧ Hid (Fc W' w6.heap.size hn hd)) ⟨by repeat (first | exact Below.refl _ _ | refine bl_alloc ?_ _ | refine Below.drew ?_ | refine bl_drewN ?_ _ | refine bl_set ?_ (by omega) _ | refine bl_step ?_ (by assumption)), by repeat (first | exact Below.refl _ _ | refine bl_alloc ?_ _ | refine Below.drew ?_ | refine bl_drewN ?_ _ | refine bl_set ?_ (by omega) _ | refine bl_step ?_ (by assumption)), hid1 ⟨by simp [go_sem], by simp [go_sem]⟩⟩ ?_
  rintro W7 ⟨B7, b7, H0⟩
  clear f0 f1 g0 g1 zf zg B6
  replace F0 := hid1 (F0.out.keep b7); replace G0 := hid1 (G0.out.keep b7)
  clear b7
  refine (C1.out _).mono ?_
  rintro e w8 ⟨rfl, hb8⟩
  replace F0 := hid1 (F0.out.keep hb8); replace G0 := hid1 (G0.out.keep hb8); replace H0 := hid1 (H0.out.keep hb8)
  have B8 : Below w.heap.size w w8 := by repeat (first | exact Below.refl _ _ | refine bl_alloc ?_ _ | refine Below.drew ?_ | refine bl_drewN ?_ _ | refine bl_set ?_ (by omega) _ | refine bl_step ?_ (by assumption))
  clear hb8 B7
  obtain ⟨f0, f1⟩ := F0.out
  obtain ⟨g0, g1⟩ := G0.out
  go_wp2_with fail
  refine (C2.out _).mono ?_
  rintro e w9 ⟨rfl, hb9⟩
  replace F0 := hid1 (F0.out.keep hb9); replace G0 := hid1 (G0.out.keep hb9); replace H0 := hid1 (H0.out.keep hb9)
  have B9 : Below w.heap.size w w9 := by repeat (first | exact Below.refl _ _ | refine bl_alloc ?_ _ | refine Below.drew ?_ | refine bl_drewN ?_ _ | refine bl_set ?_ (by omega) _ | refine bl_step ?_ (by assumption))
  clear hb9 B8 f0 f1 g0 g1
  obtain ⟨g0, g1⟩ := G0.out
  obtain ⟨h0, h1⟩ := H0.out
  go_wp2_with fail
  refine (C3.out _).mono ?_
  rintro e w10 ⟨rfl, hb10⟩
  replace F0 := hid1 (F0.out.keep hb10); replace G0 := hid1 (G0.out.keep hb10); replace H0 := hid1 (H0.out.keep hb10)
  have B10 : Below w.heap.size w w10 := by repeat (first | exact Below.refl _ _ | refine bl_alloc ?_ _ | refine Below.drew ?_ | refine bl_drewN ?_ _ | refine bl_set ?_ (by omega) _ | refine bl_step ?_ (by assumption))
  clear hb10 B9 g0 g1 h0 h1
  obtain ⟨f0, f1⟩ := F0.out
  obtain ⟨h0, h1⟩ := H0.out
  go_wp2_with fail
  refine (C4.out _).mono ?_
  rintro e w11 ⟨rfl, hb11⟩
  replace F0 := hid1 (F0.out.keep hb11); replace G0 := hid1 (G0.out.keep hb11)
  have B11 : Below w.heap.size w w11 := by repeat (first | exact Below.refl _ _ | refine bl_alloc ?_ _ | refine Below.drew ?_ | refine bl_drewN ?_ _ | refine bl_set ?_ (by omega) _ | refine bl_step ?_ (by assumption))
  clear hb11 B10 f0 f1 h0 h1 H0
  obtain ⟨f0, f1⟩ := F0.out
  obtain ⟨g0, g1⟩ := G0.out
  obtain ⟨rfl, t1, t2, t3, t4⟩ := F.out
  clear F T0 T1 T2 C1 C2 C3 C4 F0 G0
  obtain ⟨x, ex⟩ : ∃ x, fn * gd = x := ⟨_, rfl⟩
  obtain ⟨y, ey⟩ : ∃ y, gn * fd = y := ⟨_, rfl⟩
  rw [ex] at k1 t3
  rw [ey] at k2 t3
  rcases t3 with ⟨rfl, h⟩ | ⟨rfl, h⟩ | ⟨rfl, h⟩
  · have h' : ¬ y < x := by omega
    rcases t4 with rfl | rfl | rfl
    · have t5 := t1 (by omega) (by omega)
      clear t1 t2
      go_wp2; go_ret; exact ⟨by first | rfl | (simp [*]; done), B11⟩
    · have t5 := t1 (by omega) (by omega)
      clear t1 t2
      go_wp2; go_ret; exact ⟨by first | rfl | (simp [*]; done), B11⟩
    · clear t1 t2
      go_wp2; go_ret; exact ⟨by first | rfl | (simp [*]; done), B11⟩
  · subst h
    rcases t4 with rfl | rfl | rfl
    · have t5 := t1 (by omega) (by omega)
      clear t1 t2
      go_wp2; go_ret; exact ⟨by first | rfl | (simp [*]; done), B11⟩
    · have t5 := t1 (by omega) (by omega)
      have t6 := t2 (by omega) (by omega)
      clear t1 t2
      go_wp2; go_ret; exact ⟨by first | rfl | (simp [*]; done), B11⟩
    · have t6 := t2 (by omega) (by omega)
      clear t1 t2
      go_wp2; go_ret; exact ⟨by first | rfl | (simp [*]; done), B11⟩
  · have h' : ¬ x < y := by omega
    rcases t4 with rfl | rfl | rfl
    · clear t1 t2
      go_wp2; go_ret; exact ⟨by first | rfl | (simp [*]; done), B11⟩
    · have t6 := t2 (by omega) (by omega)
      clear t1 t2
      go_wp2; go_ret; exact ⟨by first | rfl | (simp [*]; done), B11⟩
    · have t6 := t2 (by omega) (by omega)
      clear t1 t2
      go_wp2; go_ret; exact ⟨by first | rfl | (simp [*]; done), B11⟩
theorem forder_walk (n0 d0 n1 d1 n2 d2 : Int) (w : World) (L : LaidP w) :
    Calls Tryd.prog 3 #[fr n0 d0, fr n1 d1, fr n2 d2] w fun e w' => e = .returned (.bool true) ∧ Below w.heap.size w w' := by
  have f := tame_fr n0 d0
  have g := tame_fr n1 d1
  have h := tame_fr n2 d2
  have C1 := fcmp_any (tmN n0) (tmD d0) (tmN n1) (tmD d1)
  have C2 := fcmp_any (tmN n1) (tmD d1) (tmN n0) (tmD d0)
  have C3 := fcmp_any (tmN n1) (tmD d1) (tmN n2) (tmD d2)
  have C4 := fcmp_any (tmN n0) (tmD d0) (tmN n2) (tmD d2)
  rw [cmF_ok f g, ceF_ok f g] at C1
  rw [cmF_ok g f, ceF_ok g f] at C2
  rw [cmF_ok g h, ceF_ok g h] at C3
  rw [cmF_ok f h, ceF_ok f h] at C4
  have b1 := cross_bd f g
  have b2 := cross_bd g f
  exact forder_core n0 d0 n1 d1 n2 d2 _ _ _ _ _ _ _ _ _ _ (hid1 (tame_any n0 d0)) (hid1 (tame_any n1 d1)) (hid1 (tame_any n2 d2)) (hid1 C1) (hid1 C2) (hid1 C3) (hid1 C4)
    (by unfold wrap64; omega) (by unfold wrap64; omega) (hid1 (order_facts f g h _ _ _ _ rfl rfl rfl rfl)) w L
end Go.Proofs.YtboabgjgcnkelaaDoor
