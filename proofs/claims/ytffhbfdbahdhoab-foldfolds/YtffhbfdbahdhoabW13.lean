import Derived.Test.YtffhbfdbahdhoabW12
namespace Go.Proofs.Ytffhbfdbahdhoab.Wd
open Go.RowKit Go.Shelf
attribute [local go_sem ↓] Go.wp_at_zero Go.wp_at_succ

theorem wv_mk (n h l : Int) (e : n = h * 18446744073709551616 + l) (hl : U64 l) : wv n = .agg #[.int .i64 h, .int .u64 l] := by
  rw [wv, e, hi_mk _ _ hl, lo_mk _ _ hl]
theorem u64_lit (n : Int) (a : 0 ≤ n) (b : n < 18446744073709551616) : U64 n := ⟨a, b⟩
theorem i64_lit (n : Int) (a : -9223372036854775808 ≤ n) (b : n < 9223372036854775808) : I64 n := ⟨a, b⟩
theorem rng_lit (n : Int) (a : -170141183460469231731687303715884105728 ≤ n) (b : n < 170141183460469231731687303715884105728) : Rng n := ⟨a, b⟩
theorem k_mul : wv (9223372036854775807 * -2) = .agg #[.int .i64 (-1), .int .u64 2] := wv_mk _ _ _ (by omega) (u64_lit _ (by omega) (by omega))
theorem k_a : wv (-18446744073709551614) = .agg #[.int .i64 (-1), .int .u64 2] := wv_mk _ _ _ (by omega) (u64_lit _ (by omega) (by omega))
theorem k_5 : wv 5 = .agg #[.int .i64 0, .int .u64 5] := wv_mk _ _ _ (by omega) (u64_lit _ (by omega) (by omega))
theorem k_b : wv (-18446744073709551609) = .agg #[.int .i64 (-1), .int .u64 7] := wv_mk _ _ _ (by omega) (u64_lit _ (by omega) (by omega))
theorem k_7 : wv (-7) = .agg #[.int .i64 (-1), .int .u64 18446744073709551609] := wv_mk _ _ _ (by omega) (u64_lit _ (by omega) (by omega))
theorem k_4 : wv (-4) = .agg #[.int .i64 (-1), .int .u64 18446744073709551612] := wv_mk _ _ _ (by omega) (u64_lit _ (by omega) (by omega))
theorem k_3 : wv (-3) = .agg #[.int .i64 (-1), .int .u64 18446744073709551613] := wv_mk _ _ _ (by omega) (u64_lit _ (by omega) (by omega))
theorem k_m : wv (-18446744073709551616) = .agg #[.int .i64 (-1), .int .u64 0] := wv_mk _ _ _ (by omega) (u64_lit _ (by omega) (by omega))
theorem k_64 : wv 18446744073709551616 = .agg #[.int .i64 1, .int .u64 0] := wv_mk _ _ _ (by omega) (u64_lit _ (by omega) (by omega))

theorem b_of5 (w : World) : Calls Try.prog 46 #[.int .i64 5] w fun e w' => e = .returned (.agg #[.int .i64 0, .int .u64 5]) ∧ Below w.heap.size w w' := by
  have h := of_any 5 (i64_lit _ (by omega) (by omega)) w
  rw [k_5] at h; exact h
theorem b_add (w : World) : Calls Try.prog 37 #[.agg #[.int .i64 (-1), .int .u64 2], .agg #[.int .i64 0, .int .u64 5]] w fun e w' => e = .returned (.tuple #[.agg #[.int .i64 (-1), .int .u64 7], .int .i64 0]) ∧ Below w.heap.size w w' := by
  have h := wadd_ok (-18446744073709551614) 5 (rng_lit _ (by omega) (by omega)) w
  have e : (-18446744073709551614 : Int) + 5 = -18446744073709551609 := by omega
  rw [e, k_a, k_5, k_b] at h; exact h
theorem b_of7 (w : World) : Calls Try.prog 46 #[.int .i64 (-7)] w fun e w' => e = .returned (.agg #[.int .i64 (-1), .int .u64 18446744073709551609]) ∧ Below w.heap.size w w' := by
  have h := of_any (-7) (i64_lit _ (by omega) (by omega)) w
  rw [k_7] at h; exact h
theorem k_floor : floorN (-7) 2 = -4 := by decide
theorem k_ceil : ceilN (-7) 2 = -3 := by decide
theorem b_floor (w : World) : Calls Try.prog 28 #[.agg #[.int .i64 (-1), .int .u64 18446744073709551609], .int .i64 2] w fun e w' => e = .returned (.tuple #[.agg #[.int .i64 (-1), .int .u64 18446744073709551612], .int .i64 0]) ∧ Below w.heap.size w w' := by
  have h := floor_any (-7) 2 (rng_lit _ (by omega) (by omega)) (i64_lit _ (by omega) (by omega)) (by decide) (parts_well _ _ (rng_lit _ (by omega) (by omega)) (i64_lit _ (by omega) (by omega)) (by decide)) w
  rw [k_floor, fitV_ok (rng_lit _ (by omega) (by omega)), errV_ok (rng_lit _ (by omega) (by omega)), k_7, k_4] at h; exact h
theorem b_ceil (w : World) : Calls Try.prog 27 #[.agg #[.int .i64 (-1), .int .u64 18446744073709551609], .int .i64 2] w fun e w' => e = .returned (.tuple #[.agg #[.int .i64 (-1), .int .u64 18446744073709551613], .int .i64 0]) ∧ Below w.heap.size w w' := by
  have h := ceil_any (-7) 2 (rng_lit _ (by omega) (by omega)) (i64_lit _ (by omega) (by omega)) (by decide) (parts_well _ _ (rng_lit _ (by omega) (by omega)) (i64_lit _ (by omega) (by omega)) (by decide)) w
  rw [k_ceil, fitV_ok (rng_lit _ (by omega) (by omega)), errV_ok (rng_lit _ (by omega) (by omega)), k_7, k_3] at h; exact h
theorem b_fit (w : World) : Calls Try.prog 50 #[.agg #[.int .i64 (-1), .int .u64 18446744073709551612]] w fun e w' => e = .returned (.tuple #[.int .i64 (-4), .int .i64 0]) ∧ Below w.heap.size w w' := by
  have h := fit_ok (-4) (i64_lit _ (by omega) (by omega)) w
  rw [k_4] at h; exact h
theorem k_show : showL (-18446744073709551616) = [45, 49, 56, 52, 52, 54, 55, 52, 52, 48, 55, 51, 55, 48, 57, 53, 53, 49, 54, 49, 54] := by decide +kernel
theorem k_readV : readV [49, 56, 52, 52, 54, 55, 52, 52, 48, 55, 51, 55, 48, 57, 53, 53, 49, 54, 49, 54] = 18446744073709551616 := by decide +kernel
theorem k_readE : readE [49, 56, 52, 52, 54, 55, 52, 52, 48, 55, 51, 55, 48, 57, 53, 53, 49, 54, 49, 54] = 0 := by decide +kernel
theorem b_cmp (w : World) : Calls Try.prog 49 #[.agg #[.int .i64 (-1), .int .u64 2], .agg #[.int .i64 (-1), .int .u64 7]] w fun e w' => e = .returned (.int .i64 (-1)) ∧ Below w.heap.size w w' :=
  cmp_w_eq (-1) 2 7 w (by decide)
end Go.Proofs.Ytffhbfdbahdhoab.Wd
