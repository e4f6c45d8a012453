import Derived.Test.YtffhbfdbahdhoabW1
import Derived.Test.YtffhbfdbahdhoabM2
import Derived.BigQuiet
import Derived.Deep.DrawnRows
namespace Go.Proofs.Ytffhbfdbahdhoab.Wd
open Go.RowKit Go.Shelf

theorem add64n (x y c : Int) (hx : U64 x) (hy : U64 y) (hc0 : 0 ≤ c) (hc : c ≤ 1) (w : World) : (callFunc 48 #[.int .u64 x, .int .u64 y, .int .u64 c]).run Try.prog w =
    .ok (.value (.tuple #[.int .u64 (sumW x y c), .int .u64 (carW x y c)])) w := add64 x y c hx.1 hy.1 hc0 hc w

theorem of_any (n : Int) (hn : I64 n) (w : World) :
    Calls Try.prog 46 #[.int .i64 n] w fun e w' => e = .returned (wv n) ∧ Below w.heap.size w w' := by
  obtain ⟨e1, e2⟩ := of_words hn
  go_enter Try.func46, Try.ntmps46
  clear e1 e2
  go_wp2
  simp [bodyPost, results, Try.results46, go_sem]
  obtain ⟨e1, e2⟩ := of_words hn
  exact ⟨⟨e1, e2⟩, (Below.refl _ _).alloc (Nat.le_refl _) _⟩

theorem cmp_w_lt (ah al bh bl : Int) (h : ah < bh) (w : World) :
    Calls Try.prog 49 #[.agg #[.int .i64 ah, .int .u64 al], .agg #[.int .i64 bh, .int .u64 bl]] w fun e w' => e = .returned (.int .i64 (-1)) ∧ Below w.heap.size w w' := by
  go_enter Try.func49, Try.ntmps49
  go_wp2
  go_ret
  exact ⟨rfl, bl_alloc (bl_alloc (Below.refl _ _) _) _⟩
theorem cmp_w_gt (ah al bh bl : Int) (h : bh < ah) (w : World) :
    Calls Try.prog 49 #[.agg #[.int .i64 ah, .int .u64 al], .agg #[.int .i64 bh, .int .u64 bl]] w fun e w' => e = .returned (.int .i64 1) ∧ Below w.heap.size w w' := by
  go_enter Try.func49, Try.ntmps49
  go_wp2
  go_ret
  exact ⟨rfl, bl_alloc (bl_alloc (Below.refl _ _) _) _⟩
theorem cmp_w_eq (ah al bl : Int) (w : World) (h : al < bl) :
    Calls Try.prog 49 #[.agg #[.int .i64 ah, .int .u64 al], .agg #[.int .i64 ah, .int .u64 bl]] w fun e w' => e = .returned (.int .i64 (-1)) ∧ Below w.heap.size w w' := by
  go_enter Try.func49, Try.ntmps49
  go_wp2
  go_ret
  exact ⟨rfl, bl_alloc (bl_alloc (Below.refl _ _) _) _⟩
theorem cmp_w_eq2 (ah al bl : Int) (w : World) (h : bl < al) :
    Calls Try.prog 49 #[.agg #[.int .i64 ah, .int .u64 al], .agg #[.int .i64 ah, .int .u64 bl]] w fun e w' => e = .returned (.int .i64 1) ∧ Below w.heap.size w w' := by
  go_enter Try.func49, Try.ntmps49
  go_wp2
  go_ret
  exact ⟨rfl, bl_alloc (bl_alloc (Below.refl _ _) _) _⟩
theorem cmp_w_same (ah al : Int) (w : World) :
    Calls Try.prog 49 #[.agg #[.int .i64 ah, .int .u64 al], .agg #[.int .i64 ah, .int .u64 al]] w fun e w' => e = .returned (.int .i64 0) ∧ Below w.heap.size w w' := by
  go_enter Try.func49, Try.ntmps49
  go_wp2
  go_ret
  exact ⟨rfl, bl_alloc (bl_alloc (Below.refl _ _) _) _⟩
theorem cmp_any (a b : Int) (w : World) :
    Calls Try.prog 49 #[wv a, wv b] w fun e w' => e = .returned (.int .i64 (cmpN a b)) ∧ Below w.heap.size w w' := by
  by_cases h : a < b
  · rw [cmp_lt h]
    rcases words_lt h with g | ⟨g, g'⟩
    · exact cmp_w_lt _ _ _ _ g w
    · rw [wv, wv, ← g]; exact cmp_w_eq _ _ _ w g'
  · by_cases h2 : a = b
    · subst h2; rw [cmp_eq]; exact cmp_w_same _ _ w
    · have h3 : b < a := by omega
      rw [cmp_gt h3]
      rcases words_lt h3 with g | ⟨g, g'⟩
      · exact cmp_w_gt _ _ _ _ g w
      · rw [wv, wv, g]; exact cmp_w_eq2 _ _ _ w g'

set_option maxRecDepth 100000 in
theorem wadd_ok (a b : Int) (h : Rng (a + b)) (w : World) :
    Calls Try.prog 37 #[wv a, wv b] w fun e w' => e = .returned (.tuple #[wv (a + b), .int .i64 0]) ∧ Below w.heap.size w w' := by
  have e1 := add_lo a b
  have e2 := add_hi h
  have u1 := wrap_u64 (hiOf a); have u2 := wrap_u64 (hiOf b)
  obtain ⟨k0, k1⟩ := carW_01 (lo_u64 a) (lo_u64 b) (Int.le_refl 0) (by decide : (0:Int) ≤ 1)
  by_cases ga : a < 0 <;> by_cases gb : b < 0
  · have s1 := hi_ngt ga; have s2 := hi_ngt gb; have s3 := hi_ngt (show a + b < 0 by omega)
    go_enter Try.func37, Try.ntmps37
    go_wp2_with (first | simp only [add64n (loOf a) (loOf b) 0 (lo_u64 a) (lo_u64 b) (Int.le_refl 0) (by decide)] | simp only [add64n _ _ _ u1 u2 k0 k1])
    simp [bodyPost, results, Try.results37, go_sem]
    repeat (first | exact Below.refl _ _ | refine bl_alloc ?_ _ | refine Below.drew ?_ | refine bl_set ?_ (by omega) _ | refine bl_step ?_ (by assumption))
  · have s1 := hi_ngt ga; have s2 := hi_nn (show 0 ≤ b by omega)
    go_enter Try.func37, Try.ntmps37
    go_wp2_with (first | simp only [add64n (loOf a) (loOf b) 0 (lo_u64 a) (lo_u64 b) (Int.le_refl 0) (by decide)] | simp only [add64n _ _ _ u1 u2 k0 k1])
    simp [bodyPost, results, Try.results37, go_sem]
    repeat (first | exact Below.refl _ _ | refine bl_alloc ?_ _ | refine Below.drew ?_ | refine bl_set ?_ (by omega) _ | refine bl_step ?_ (by assumption))
  · have s1 := hi_nn (show 0 ≤ a by omega); have s2 := hi_ngt gb
    go_enter Try.func37, Try.ntmps37
    go_wp2_with (first | simp only [add64n (loOf a) (loOf b) 0 (lo_u64 a) (lo_u64 b) (Int.le_refl 0) (by decide)] | simp only [add64n _ _ _ u1 u2 k0 k1])
    simp [bodyPost, results, Try.results37, go_sem]
    repeat (first | exact Below.refl _ _ | refine bl_alloc ?_ _ | refine Below.drew ?_ | refine bl_set ?_ (by omega) _ | refine bl_step ?_ (by assumption))
  · have s1 := hi_nn (show 0 ≤ a by omega); have s2 := hi_nn (show 0 ≤ b by omega); have s3 := hi_nn (show 0 ≤ a + b by omega)
    go_enter Try.func37, Try.ntmps37
    go_wp2_with (first | simp only [add64n (loOf a) (loOf b) 0 (lo_u64 a) (lo_u64 b) (Int.le_refl 0) (by decide)] | simp only [add64n _ _ _ u1 u2 k0 k1])
    simp [bodyPost, results, Try.results37, go_sem]
    repeat (first | exact Below.refl _ _ | refine bl_alloc ?_ _ | refine Below.drew ?_ | refine bl_set ?_ (by omega) _ | refine bl_step ?_ (by assumption))

set_option maxRecDepth 100000 in
theorem wadd_no (a b : Int) (ha : Rng a) (hb : Rng b) (h : ¬ Rng (a + b)) (w : World) :
    Calls Try.prog 37 #[wv a, wv b] w fun e w' => e = .returned (.tuple #[wv 0, .int .i64 10]) ∧ Below w.heap.size w w' := by
  have u1 := wrap_u64 (hiOf a); have u2 := wrap_u64 (hiOf b)
  obtain ⟨k0, k1⟩ := carW_01 (lo_u64 a) (lo_u64 b) (Int.le_refl 0) (by decide : (0:Int) ≤ 1)
  rcases add_over ha hb h with ⟨ga, gb, s3⟩ | ⟨ga, gb, s3⟩
  · have s1 := hi_ngt ga; have s2 := hi_ngt gb
    have s4 : decide (wrap64 (sumW (IntKind.u64.wrap (hiOf a)) (IntKind.u64.wrap (hiOf b)) (carW (loOf a) (loOf b) 0)) < 0) = false := decide_eq_false (by omega)
    clear h s3
    go_enter Try.func37, Try.ntmps37
    go_wp2_with (first | simp only [add64n (loOf a) (loOf b) 0 (lo_u64 a) (lo_u64 b) (Int.le_refl 0) (by decide)] | simp only [add64n _ _ _ u1 u2 k0 k1])
    simp [bodyPost, results, Try.results37, go_sem, hi0, lo0]
    repeat (first | exact Below.refl _ _ | refine bl_alloc ?_ _ | refine Below.drew ?_ | refine bl_set ?_ (by omega) _ | refine bl_step ?_ (by assumption))
  · have s1 := hi_nn ga; have s2 := hi_nn gb
    clear h
    go_enter Try.func37, Try.ntmps37
    go_wp2_with (first | simp only [add64n (loOf a) (loOf b) 0 (lo_u64 a) (lo_u64 b) (Int.le_refl 0) (by decide)] | simp only [add64n _ _ _ u1 u2 k0 k1])
    simp [bodyPost, results, Try.results37, go_sem, hi0, lo0]
    repeat (first | exact Below.refl _ _ | refine bl_alloc ?_ _ | refine Below.drew ?_ | refine bl_set ?_ (by omega) _ | refine bl_step ?_ (by assumption))
end Go.Proofs.Ytffhbfdbahdhoab.Wd
