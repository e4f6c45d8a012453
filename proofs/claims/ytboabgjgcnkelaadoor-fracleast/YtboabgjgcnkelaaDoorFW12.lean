/- FRACLEAST, WALKED. -/
import Derived.Test.YtboabgjgcnkelaaDoorFW8
namespace Go.Proofs.YtboabgjgcnkelaaDoor
open Go.RowKit Go.Shelf
attribute [local go_sem ↓] Go.wp_at_zero Go.wp_at_succ

theorem gd_swap (a b : Int) : gd a b = gd b a := by unfold gd; rw [Int.gcd_comm]
set_option maxRecDepth 100000 in
theorem common_any (n d : Int) (hn : -2147483647 ≤ n ∧ n ≤ 2147483647) (hd : 0 < d ∧ d ≤ 2147483647) (w : World) :
    Calls Tryd.prog 15 #[.int .i64 n, .int .i64 d] w fun e w' => e = .returned (.int .i64 (gd n d)) ∧ w' = w := by
  obtain ⟨n1, n2⟩ := hn
  obtain ⟨d1, d2⟩ := hd
  obtain ⟨a, ha⟩ : ∃ a, a = (if n < 0 then -n else n) := ⟨_, rfl⟩
  have ha2 : 0 ≤ a ∧ a ≤ 2147483647 ∧ gd a d = gd n d := by
    split at ha
    · subst ha; exact ⟨by omega, by omega, gd_neg n d⟩
    · subst ha; exact ⟨by omega, by omega, rfl⟩
  obtain ⟨g, hg⟩ : ∃ g, gd n d = g := ⟨_, rfl⟩
  rw [hg] at ha2 ⊢
  have HG := hid1 ha2.2.2
  obtain ⟨a1, a2, _⟩ := ha2
  clear hg
  by_cases h0 : n < 0
  · rw [if_pos h0] at ha
    subst ha
    go_enter Tryd.func15, Tryd.ntmps15
    go_wp2
    go_loop [0, 1] (fun x y => ∃ p q : Int, x = .int .i64 p ∧ y = .int .i64 q ∧ 0 ≤ p ∧ p ≤ 2147483647 ∧ 0 ≤ q ∧ q ≤ 2147483647 ∧ Hid (gd p q = g)) (fun _ y => (intOf y).toNat)
    case atStart => exact ⟨-n, d, rfl, rfl, a1, a2, by omega, by omega, HG⟩
    case round =>
      obtain ⟨p, q, rfl, rfl, p1, p2, q1, q2, HP⟩ := hrel
      by_cases h0 : q = 0
      · subst h0
        go_wp2
        go_ret
        have := HP.out
        rw [gd_swap, gd_zero (by omega)] at this
        exact ⟨by rw [this]; rfl, rfl⟩
      · obtain ⟨t1, t2⟩ := emod_bd (a := q) p (by omega)
        have HS := hid1 ((gd_swap q (p % q)).trans ((gd_stepe q p).trans (gd_swap q p)))
        go_wp2
        exact ⟨⟨_, _, rfl, rfl, by omega, by omega, by omega, by omega, hid1 (HS.out.trans HP.out)⟩, by simp [intOf]; omega⟩
  · rw [if_neg h0] at ha
    subst ha
    go_enter Tryd.func15, Tryd.ntmps15
    go_wp2
    go_loop [0, 1] (fun x y => ∃ p q : Int, x = .int .i64 p ∧ y = .int .i64 q ∧ 0 ≤ p ∧ p ≤ 2147483647 ∧ 0 ≤ q ∧ q ≤ 2147483647 ∧ Hid (gd p q = g)) (fun _ y => (intOf y).toNat)
    case atStart => exact ⟨_, d, rfl, rfl, a1, a2, by omega, by omega, HG⟩
    case round =>
      obtain ⟨p, q, rfl, rfl, p1, p2, q1, q2, HP⟩ := hrel
      by_cases h0 : q = 0
      · subst h0
        go_wp2
        go_ret
        have := HP.out
        rw [gd_swap, gd_zero (by omega)] at this
        exact ⟨by rw [this]; rfl, rfl⟩
      · obtain ⟨t1, t2⟩ := emod_bd (a := q) p (by omega)
        have HS := hid1 ((gd_swap q (p % q)).trans ((gd_stepe q p).trans (gd_swap q p)))
        go_wp2
        exact ⟨⟨_, _, rfl, rfl, by omega, by omega, by omega, by omega, hid1 (HS.out.trans HP.out)⟩, by simp [intOf]; omega⟩
end Go.Proofs.YtboabgjgcnkelaaDoor
