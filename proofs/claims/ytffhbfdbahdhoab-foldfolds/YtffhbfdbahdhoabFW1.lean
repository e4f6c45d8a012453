/- FRACTIONS: CHECK, REDUCE, CMP OF THE PROGRAM, WALKED. -/
import Derived.Test.YtffhbfdbahdhoabW17
import Derived.Test.YtffhbfdbahdhoabFM3
import Derived.WalkLawsBesides
namespace Go.Proofs.Ytffhbfdbahdhoab.Wd
open Go.RowKit Go.Shelf
attribute [local go_sem ↓] Go.wp_at_zero Go.wp_at_succ

abbrev fr (n d : Int) : Value := .agg #[.int .i64 n, .int .i64 d]
instance (n d : Int) : Decidable (Fr n d) := by unfold Fr; infer_instance
instance (x : Int) : Decidable (Sm x) := by unfold Sm; infer_instance
def chF (n d : Int) : Int := if Fr n d then 0 else 40
theorem chF_ok {n d : Int} (h : Fr n d) : chF n d = 0 := if_pos h
theorem chF_no {n d : Int} (h : ¬ Fr n d) : chF n d = 40 := if_neg h

theorem inReach_any (x : Int) (w : World) :
    Calls Try.prog 35 #[.int .i64 x] w fun e w' => e = .returned (.bool (decide (Sm x))) ∧ w' = w := by
  by_cases h1 : -2147483647 ≤ x
  · by_cases h2 : x ≤ 2147483647
    · rw [decide_eq_true (show Sm x from ⟨h1, h2⟩)]
      go_enter Try.func35, Try.ntmps35
      go_wp2
      go_ret
      exact ⟨rfl, rfl⟩
    · rw [decide_eq_false (show ¬ Sm x from fun h => h2 h.2)]
      go_enter Try.func35, Try.ntmps35
      go_wp2
      go_ret
      exact ⟨rfl, rfl⟩
  · rw [decide_eq_false (show ¬ Sm x from fun h => h1 h.1)]
    go_enter Try.func35, Try.ntmps35
    go_wp2
    go_ret
    exact ⟨rfl, rfl⟩
set_option maxRecDepth 100000 in
theorem fcheck_any (n d : Int) (w : World) :
    Calls Try.prog 25 #[fr n d] w fun e w' => e = .returned (.int .i64 (chF n d)) ∧ Below w.heap.size w w' := by
  by_cases h1 : d < 1
  · rw [chF_no (fun h => by have := h.1; omega)]
    go_enter Try.func25, Try.ntmps25
    go_wp2
    go_ret
    exact ⟨rfl, bl_alloc (Below.refl _ _) _⟩
  · by_cases h2 : 1048576 < d
    · rw [chF_no (fun h => by have := h.2.1; omega)]
      go_enter Try.func25, Try.ntmps25
      go_wp2
      go_ret
      exact ⟨rfl, bl_alloc (Below.refl _ _) _⟩
    · by_cases h3 : Sm n
      · rw [chF_ok ⟨by omega, by omega, h3.1, h3.2⟩]
        have H := decide_eq_true h3
        go_enter Try.func25, Try.ntmps25
        go_wp2_with (go_at_call 35; refine (inReach_any n _).mono ?_; rintro e w1 ⟨rfl, rfl⟩; rw [H])
        go_ret
        exact ⟨rfl, bl_alloc (Below.refl _ _) _⟩
      · rw [chF_no (fun h => h3 h.2.2)]
        have H := decide_eq_false h3
        go_enter Try.func25, Try.ntmps25
        go_wp2_with (go_at_call 35; refine (inReach_any n _).mono ?_; rintro e w1 ⟨rfl, rfl⟩; rw [H])
        go_ret
        exact ⟨rfl, bl_alloc (Below.refl _ _) _⟩
theorem emod_bd {a : Int} (b : Int) (ha : 0 < a) : 0 ≤ b % a ∧ b % a < a := ⟨Int.emod_nonneg b (by omega), Int.emod_lt_of_pos b ha⟩
theorem gd_stepe (a b : Int) : gd (b % a) a = gd a b := by
  unfold gd
  have e : b % a + a * (b / a) = b := Int.emod_add_mul_ediv b a
  have h : Int.gcd a (b % a + a * (b / a)) = Int.gcd a (b % a) := Int.gcd_add_mul_left_right ..
  rw [e] at h
  rw [h, Int.gcd_comm]
end Go.Proofs.Ytffhbfdbahdhoab.Wd
