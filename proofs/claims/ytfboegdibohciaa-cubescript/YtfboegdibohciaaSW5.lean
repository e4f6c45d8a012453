/- SHAPES: THE DOCUMENT'S OWN CHECK, ELEMS, WORDS, INDEX, WALKED. -/
import Derived.Test.YtfboegdibohciaaSW3
namespace Go.Proofs.Ytfboegdibohciaa.Sg
open Go.RowKit

set_option maxRecDepth 100000 in
theorem in_yes (n lo hi : Int) (h1 : lo ≤ n) (h2 : n ≤ hi) (w : World) : Calls Try.prog 52 #[.int .i64 n, .int .i64 lo, .int .i64 hi] w fun e w' => e = .returned (.bool true) ∧ w' = w := by
  go_enter Try.func52, Try.ntmps52
  go_wp2
  go_ret
  exact ⟨rfl, rfl⟩
set_option maxRecDepth 100000 in
theorem in_no1 (n lo hi : Int) (h1 : ¬ n ≥ lo) (w : World) : Calls Try.prog 52 #[.int .i64 n, .int .i64 lo, .int .i64 hi] w fun e w' => e = .returned (.bool false) ∧ w' = w := by
  go_enter Try.func52, Try.ntmps52
  go_wp2
  go_ret
  exact ⟨rfl, rfl⟩
set_option maxRecDepth 100000 in
theorem in_no2 (n lo hi : Int) (h1 : n ≥ lo) (h2 : ¬ n ≤ hi) (w : World) : Calls Try.prog 52 #[.int .i64 n, .int .i64 lo, .int .i64 hi] w fun e w' => e = .returned (.bool false) ∧ w' = w := by
  go_enter Try.func52, Try.ntmps52
  go_wp2
  go_ret
  exact ⟨rfl, rfl⟩
theorem in_no (n lo hi : Int) (h : ¬ (lo ≤ n ∧ n ≤ hi)) (w : World) : Calls Try.prog 52 #[.int .i64 n, .int .i64 lo, .int .i64 hi] w fun e w' => e = .returned (.bool false) ∧ w' = w := by
  by_cases h1 : n ≥ lo
  · exact in_no2 n lo hi h1 (by omega) w
  · exact in_no1 n lo hi h1 w
set_option maxRecDepth 100000 in
theorem rcheck_ok (h v c : Int) (hs : Sides h v c) (w : World) :
    Calls Try.prog 48 #[shp h v c] w fun e w' => e = .returned (.int .i64 (if h * v * c > 16777216 then 31 else 0)) ∧ Below w.heap.size w w' := by
  have m1 := mul2 hs.1 hs.2.1
  have m2 := mul3 hs
  have e1 := wr_id (x := h * v) (by omega) (by omega)
  have e2 := wr_id (x := h * v * c) (by omega) (by omega)
  obtain ⟨⟨a1, a2⟩, ⟨a3, a4⟩, a5, a6⟩ := hs
  go_enter Try.func48, Try.ntmps48
  go_wp2_with (first | (go_at_call 52; refine (in_yes _ _ _ (by omega) (by omega) _).mono ?_; rintro e w' ⟨rfl, rfl⟩) | (go_at_call 52; refine (in_no _ _ _ (by omega) _).mono ?_; rintro e w' ⟨rfl, rfl⟩))
  all_goals (go_ret; exact ⟨rfl, bl_alloc (Below.refl _ _) _⟩)
set_option maxRecDepth 100000 in
theorem rcheck_n1 (h v c : Int) (h1 : ¬ (1 ≤ h ∧ h ≤ 4096)) (w : World) :
    Calls Try.prog 48 #[shp h v c] w fun e w' => e = .returned (.int .i64 30) ∧ Below w.heap.size w w' := by
  go_enter Try.func48, Try.ntmps48
  go_wp2_with (first | (go_at_call 52; refine (in_yes _ _ _ (by omega) (by omega) _).mono ?_; rintro e w' ⟨rfl, rfl⟩) | (go_at_call 52; refine (in_no _ _ _ (by omega) _).mono ?_; rintro e w' ⟨rfl, rfl⟩))
  all_goals (go_ret; exact ⟨rfl, bl_alloc (Below.refl _ _) _⟩)
set_option maxRecDepth 100000 in
theorem rcheck_n2 (h v c : Int) (h1 : 1 ≤ h ∧ h ≤ 4096) (h2 : ¬ (1 ≤ v ∧ v ≤ 4096)) (w : World) :
    Calls Try.prog 48 #[shp h v c] w fun e w' => e = .returned (.int .i64 30) ∧ Below w.heap.size w w' := by
  go_enter Try.func48, Try.ntmps48
  go_wp2_with (first | (go_at_call 52; refine (in_yes _ _ _ (by omega) (by omega) _).mono ?_; rintro e w' ⟨rfl, rfl⟩) | (go_at_call 52; refine (in_no _ _ _ (by omega) _).mono ?_; rintro e w' ⟨rfl, rfl⟩))
  all_goals (go_ret; exact ⟨rfl, bl_alloc (Below.refl _ _) _⟩)
set_option maxRecDepth 100000 in
theorem rcheck_n3 (h v c : Int) (h1 : 1 ≤ h ∧ h ≤ 4096) (h2 : 1 ≤ v ∧ v ≤ 4096) (h3 : ¬ (1 ≤ c ∧ c ≤ 4096)) (w : World) :
    Calls Try.prog 48 #[shp h v c] w fun e w' => e = .returned (.int .i64 30) ∧ Below w.heap.size w w' := by
  go_enter Try.func48, Try.ntmps48
  go_wp2_with (first | (go_at_call 52; refine (in_yes _ _ _ (by omega) (by omega) _).mono ?_; rintro e w' ⟨rfl, rfl⟩) | (go_at_call 52; refine (in_no _ _ _ (by omega) _).mono ?_; rintro e w' ⟨rfl, rfl⟩))
  all_goals (go_ret; exact ⟨rfl, bl_alloc (Below.refl _ _) _⟩)
theorem rcheck_any (h v c : Int) (w : World) :
    Calls Try.prog 48 #[shp h v c] w fun e w' => e = .returned (.int .i64 (chk h v c)) ∧ Below w.heap.size w w' := by
  unfold chk
  by_cases hs : Sides h v c
  · rw [if_pos hs]; exact rcheck_ok h v c hs w
  · rw [if_neg hs]
    by_cases h1 : 1 ≤ h ∧ h ≤ 4096
    · by_cases h2 : 1 ≤ v ∧ v ≤ 4096
      · exact rcheck_n3 h v c h1 h2 (fun h3 => hs ⟨h1, h2, h3⟩) w
      · exact rcheck_n2 h v c h1 h2 w
    · exact rcheck_n1 h v c h1 w
set_option maxRecDepth 100000 in
theorem relems_any (h v c : Int) (w : World) :
    Calls Try.prog 41 #[shp h v c] w fun e w' => e = .returned (.tuple #[.int .i64 (elN h v c), .int .i64 (chk h v c)]) ∧ Below w.heap.size w w' := by
  have HC := rcheck_any h v c
  unfold elN
  by_cases k : chk h v c = 0
  · rw [k] at HC ⊢
    rw [if_pos rfl]
    obtain ⟨hs, _⟩ := chk_zero k
    have m1 := mul2 hs.1 hs.2.1
    have m2 := mul3 hs
    have e1 := wr_id (x := h * v) (by omega) (by omega)
    have e2 := wr_id (x := h * v * c) (by omega) (by omega)
    go_enter Try.func41, Try.ntmps41
    go_wp2_with fail
    refine gen_calls (fun W => Below w.heap.size w W ∧ Sh W w.heap.size 0 h v c) ⟨bl_alloc (Below.refl _ _) _, sh_new _ _ _ _ _⟩ ?_
    rintro W ⟨B0, S0⟩
    refine (HC W).mono ?_
    rintro e w1 ⟨rfl, hb⟩
    obtain ⟨c0, c1, c2⟩ := S0.keep hb
    go_wp2_with fail
    go_ret2
    exact ⟨rfl, bl_step B0 hb⟩
  · rw [if_neg k]
    generalize chk h v c = q at *
    go_enter Try.func41, Try.ntmps41
    go_wp2_with fail
    refine gen_calls (fun W => Below w.heap.size w W) (bl_alloc (Below.refl _ _) _) ?_
    rintro W B0
    refine (HC W).mono ?_
    rintro e w1 ⟨rfl, hb⟩
    go_wp2_with fail
    go_ret2
    exact ⟨rfl, bl_step B0 hb⟩
set_option maxRecDepth 100000 in
theorem rwords_any (h v c : Int) (w : World) :
    Calls Try.prog 45 #[shp h v c] w fun e w' => e = .returned (.tuple #[.int .i64 (woN h v c), .int .i64 (chk h v c)]) ∧ Below w.heap.size w w' := by
  have HC := rcheck_any h v c
  unfold woN
  by_cases k : chk h v c = 0
  · rw [k] at HC ⊢
    rw [if_pos rfl]
    obtain ⟨hs, _⟩ := chk_zero k
    have m1 := mul2 hs.1 hs.2.1
    have s3 := hs.2.2
    have e1 := wr_id (x := h * v) (by omega) (by omega)
    have m3 := Int.mul_nonneg (show 0 ≤ h * v by omega) (show 0 ≤ (c + 63) / 64 by omega)
    have m4 := Int.mul_le_mul m1.2 (show (c + 63) / 64 ≤ 4096 by omega) (by omega) (by omega)
    have e6 := wr_id (x := h * v * ((c + 63) / 64)) (by omega) (by omega)
    go_enter Try.func45, Try.ntmps45
    go_wp2_with fail
    refine gen_calls (fun W => Below w.heap.size w W ∧ Sh W w.heap.size 0 h v c) ⟨bl_alloc (Below.refl _ _) _, sh_new _ _ _ _ _⟩ ?_
    rintro W ⟨B0, S0⟩
    refine (HC W).mono ?_
    rintro e w1 ⟨rfl, hb⟩
    obtain ⟨c0, c1, c2⟩ := S0.keep hb
    go_wp2_with fail
    go_loop [5, 6] (fun n x => ∃ j : Nat, (j : Int) ≤ (c + 63) / 64 ∧ n = .int .i64 j ∧ x = .int .i64 (64 * j)) (fun n _ => 100 - (intOf n).toNat)
    case atStart => exact ⟨0, by omega, rfl, rfl⟩
    case round =>
      obtain ⟨j, hj, rfl, rfl⟩ := hrel
      by_cases hlt : 64 * (j : Int) < c
      · go_wp2_with fail
        refine ⟨⟨j + 1, by omega, by go_num, ?_⟩, by simp [intOf]; omega⟩
        go_num
      · have ej : (j : Int) = (c + 63) / 64 := by omega
        rw [← ej] at e6 ⊢
        go_wp2_with fail
        go_ret2
        exact ⟨rfl, bl_step B0 hb⟩
  · rw [if_neg k]
    generalize chk h v c = q at *
    go_enter Try.func45, Try.ntmps45
    go_wp2_with fail
    refine gen_calls (fun W => Below w.heap.size w W) (bl_alloc (Below.refl _ _) _) ?_
    rintro W B0
    refine (HC W).mono ?_
    rintro e w1 ⟨rfl, hb⟩
    go_wp2_with fail
    go_ret2
    exact ⟨rfl, bl_step B0 hb⟩
end Go.Proofs.Ytfboegdibohciaa.Sg
