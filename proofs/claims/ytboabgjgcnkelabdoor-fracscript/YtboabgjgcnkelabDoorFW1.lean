/- FRACTIONS: CHECK, REDUCE, CMP OF THE PROGRAM, WALKED. -/
import Derived.Test.YtboabgjgcnkelabDoorW17
import Derived.Test.YtboabgjgcnkelabDoorFM3
import Derived.WalkLawsBesides
namespace Go.Proofs.YtboabgjgcnkelabDoor
open Go.RowKit Go.Shelf
attribute [local go_sem ↓] Go.wp_at_zero Go.wp_at_succ

abbrev fr (n d : Int) : Value := .agg #[.int .i64 n, .int .i64 d]
instance (n d : Int) : Decidable (Fr n d) := by unfold Fr; infer_instance
instance (x : Int) : Decidable (Sm x) := by unfold Sm; infer_instance
def chF (n d : Int) : Int := if Fr n d then 0 else 40
theorem chF_ok {n d : Int} (h : Fr n d) : chF n d = 0 := if_pos h
theorem chF_no {n d : Int} (h : ¬ Fr n d) : chF n d = 40 := if_neg h

theorem inReach_any (x : Int) (w : World) :
    Calls Tryd.prog 29 #[.int .i64 x] w fun e w' => e = .returned (.bool (decide (Sm x))) ∧ w' = w := by
  by_cases h1 : -2147483647 ≤ x
  · by_cases h2 : x ≤ 2147483647
    · rw [decide_eq_true (show Sm x from ⟨h1, h2⟩)]
      go_enter Tryd.func29, Tryd.ntmps29
      go_wp2
      go_ret
      exact ⟨rfl, rfl⟩
    · rw [decide_eq_false (show ¬ Sm x from fun h => h2 h.2)]
      go_enter Tryd.func29, Tryd.ntmps29
      go_wp2
      go_ret
      exact ⟨rfl, rfl⟩
  · rw [decide_eq_false (show ¬ Sm x from fun h => h1 h.1)]
    go_enter Tryd.func29, Tryd.ntmps29
    go_wp2
    go_ret
    exact ⟨rfl, rfl⟩
set_option maxRecDepth 100000 in
theorem fcheck_any (n d : Int) (w : World) :
    Calls Tryd.prog 17 #[fr n d] w fun e w' => e = .returned (.int .i64 (chF n d)) ∧ Below w.heap.size w w' := by
  by_cases h1 : d < 1
  · rw [chF_no (fun h => by have := h.1; omega)]
    go_enter Tryd.func17, Tryd.ntmps17
    go_wp2
    go_ret
    exact ⟨rfl, bl_alloc (Below.refl _ _) _⟩
  · by_cases h2 : 1048576 < d
    · rw [chF_no (fun h => by have := h.2.1; omega)]
      go_enter Tryd.func17, Tryd.ntmps17
      go_wp2
      go_ret
      exact ⟨rfl, bl_alloc (Below.refl _ _) _⟩
    · by_cases h3 : Sm n
      · rw [chF_ok ⟨by omega, by omega, h3.1, h3.2⟩]
        have H := decide_eq_true h3
        go_enter Tryd.func17, Tryd.ntmps17
        go_wp2_with (go_at_call 29; refine (inReach_any n _).mono ?_; rintro e w1 ⟨rfl, rfl⟩; rw [H])
        go_ret
        exact ⟨rfl, bl_alloc (Below.refl _ _) _⟩
      · rw [chF_no (fun h => h3 h.2.2)]
        have H := decide_eq_false h3
        go_enter Tryd.func17, Tryd.ntmps17
        go_wp2_with (go_at_call 29; refine (inReach_any n _).mono ?_; rintro e w1 ⟨rfl, rfl⟩; rw [H])
        go_ret
        exact ⟨rfl, bl_alloc (Below.refl _ _) _⟩
theorem emod_bd {a : Int} (b : Int) (ha : 0 < a) : 0 ≤ b % a ∧ b % a < a := ⟨Int.emod_nonneg b (by omega), Int.emod_lt_of_pos b ha⟩
theorem gd_stepe (a b : Int) : gd (b % a) a = gd a b := by
  unfold gd
  have e : b % a + a * (b / a) = b := Int.emod_add_mul_ediv b a
  have h : Int.gcd a (b % a + a * (b / a)) = Int.gcd a (b % a) := Int.gcd_add_mul_left_right ..
  rw [e] at h
  rw [h, Int.gcd_comm]
set_option maxRecDepth 100000 in
theorem divisor_any (n d : Int) (hn : Fr n d) (w : World) :
    Calls Tryd.prog 34 #[.int .i64 n, .int .i64 d] w fun e w' => e = .returned (.int .i64 (gd n d)) ∧ w' = w := by
  obtain ⟨d1, d2, n1, n2⟩ := hn
  obtain ⟨a, ha⟩ : ∃ a, a = max n (-n) := ⟨_, rfl⟩
  have ha2 : 0 ≤ a ∧ a ≤ 2147483647 ∧ gd a d = gd n d := by
    rcases Int.le_total n 0 with k | k
    · have e : a = -n := by omega
      subst e; exact ⟨by omega, by omega, gd_neg n d⟩
    · have e : a = n := by omega
      subst e; exact ⟨by omega, by omega, rfl⟩
  have ha3 := ha.symm
  clear ha
  obtain ⟨g, hg⟩ : ∃ g, gd n d = g := ⟨_, rfl⟩
  rw [hg] at ha2 ⊢
  have HG := hid1 ha2.2.2
  obtain ⟨a1, a2, _⟩ := ha2
  clear hg
  go_enter Tryd.func34, Tryd.ntmps34
  go_wp2
  go_loop [0, 1] (fun x y => ∃ p q : Int, x = .int .i64 p ∧ y = .int .i64 q ∧ 0 ≤ p ∧ p ≤ 2147483647 ∧ 0 < q ∧ q ≤ 2147483647 ∧ Hid (gd p q = g)) (fun x _ => (intOf x).toNat)
  case atStart => exact ⟨a, d, by simp [*], rfl, a1, a2, by omega, by omega, HG⟩
  case round =>
    obtain ⟨p, q, rfl, rfl, p1, p2, q1, q2, HP⟩ := hrel
    by_cases h0 : p = 0
    · subst h0
      go_wp2
      go_ret
      have := HP.out
      rw [gd_zero (by omega)] at this
      exact ⟨by rw [this]; rfl, rfl⟩
    · obtain ⟨t1, t2⟩ := emod_bd (a := p) q (by omega)
      have HS := hid1 (gd_stepe p q)
      go_wp2
      exact ⟨⟨_, _, rfl, rfl, by omega, by omega, by omega, by omega, hid1 (HS.out.trans HP.out)⟩, by simp [intOf]; omega⟩

set_option maxRecDepth 100000 in
theorem reduce_ok (n d : Int) (h : Fr n d) (w : World) :
    Calls Tryd.prog 15 #[fr n d] w fun e w' => e = .returned (.tuple #[fr (rn n d) (rd n d), .int .i64 0]) ∧ Below w.heap.size w w' := by
  have hg := gd_pos (n := n) (d := d) (by have := h.1; omega)
  have q1 := tdiv_gd_n n d
  have q2 := tdiv_gd_d n d
  obtain ⟨b1, b2⟩ := rn_bd (n := n) (d := d) (B := 2147483647) (by have := h.1; omega) h.2.2.1 h.2.2.2
  have b3 := rd_pos (n := n) (d := d) (by have := h.1; omega)
  have b4 := rd_le (n := n) (d := d) (by have := h.1; omega)
  have b5 := h.2.1
  have HC := hid1 (divisor_any n d h)
  have h0 := chF_ok h
  clear h
  obtain ⟨g, eg⟩ : ∃ g, gd n d = g := ⟨_, rfl⟩
  obtain ⟨p, ep⟩ : ∃ p, rn n d = p := ⟨_, rfl⟩
  obtain ⟨q, eq⟩ : ∃ q, rd n d = q := ⟨_, rfl⟩
  rw [eg] at HC hg q1 q2
  rw [ep] at q1 b1 b2 ⊢
  rw [eq] at q2 b3 b4 ⊢
  clear eg ep eq
  go_enter Tryd.func15, Tryd.ntmps15
  go_wp2_with fail
  refine (fcheck_any n d _).mono ?_
  rintro e w1 ⟨rfl, hb1⟩
  rw [h0]
  have c0 := keepc hb1 (b := w.heap.size) (o := 0) (v := .int .i64 n) (by simp [go_sem])
  have c1 := keepc hb1 (b := w.heap.size) (o := 1) (v := .int .i64 d) (by simp [go_sem])
  have r0 := keepc hb1 (b := w.heap.size + 1) (o := 0) (v := .int .i64 0) (by simp [go_sem])
  have r1 := keepc hb1 (b := w.heap.size + 1) (o := 1) (v := .int .i64 0) (by simp [go_sem])
  have f0 := keepf hb1 (b := w.heap.size + 1) (o := 0) (by simp) (by simp [go_sem])
  have f1 := keepf hb1 (b := w.heap.size + 1) (o := 1) (by simp) (by simp [go_sem])
  have z := lt_of_cell r0
  go_wp2_with fail
  refine (HC.out _).mono ?_
  rintro e w2 ⟨rfl, rfl⟩
  go_upto_region 5 with fail
  go_region
  all_goals go_wp2
  all_goals simp [bodyPost, results, Tryd.results15, go_sem, *]
  all_goals (repeat (first | exact Below.refl _ _ | refine bl_alloc ?_ _ | refine Below.drew ?_ | refine bl_drewN ?_ _ | refine bl_set ?_ (by omega) _ | refine bl_step ?_ (by assumption)))
end Go.Proofs.YtboabgjgcnkelabDoor
