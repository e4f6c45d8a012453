import Derived.Test.YtffhbfdbahdhoabW8
import Derived.Test.YtffhbfdbahdhoabM7
namespace Go.Proofs.Ytffhbfdbahdhoab.Wd
open Go.RowKit Go.Shelf

set_option maxRecDepth 100000 in
theorem times_ok (n k : Int) (hn : Siz n) (hk : U64 k) (h : Siz (n * k)) (w : World) :
    Calls Try.prog 62 #[sv n, .int .u64 k] w fun e w' => e = .returned (.tuple #[sv (n * k), .bool true]) ∧ Below w.heap.size w w' := by
  obtain ⟨m1, -, m3⟩ := times_math hn hk
  obtain ⟨e1, e2, e3⟩ := m1 h
  have u1 : U64 (loOf (hiOf n * k)) := lo_u64 _
  have u2 : U64 (hiOf (loOf n * k)) := hi_u64 (siz_mul (lo_u64 n) hk)
  clear m1
  go_enter Try.func62, Try.ntmps62
  go_wp2_with fail
  refine (mul64_any _ _ (lo_u64 n) hk _).mono ?_
  rintro e w' ⟨rfl, rfl⟩
  go_wp2_with fail
  refine (mul64_any _ _ (hi_u64 hn) hk _).mono ?_
  rintro e w' ⟨rfl, rfl⟩
  go_wp2_with (simp only [add64n _ _ 0 u1 u2 (Int.le_refl 0) (by decide)])
  simp [bodyPost, results, Try.results62, go_sem]
  repeat (first | exact Below.refl _ _ | refine bl_alloc ?_ _ | refine Below.drew ?_ | refine bl_drewN ?_ _ | refine bl_set ?_ (by omega) _ | refine bl_step ?_ (by assumption))
set_option maxRecDepth 100000 in
theorem times_no (n k : Int) (hn : Siz n) (hk : U64 k) (h : ¬ Siz (n * k)) (w : World) :
    Calls Try.prog 62 #[sv n, .int .u64 k] w fun e w' => (∃ v, e = .returned (.tuple #[sv v, .bool false])) ∧ Below w.heap.size w w' := by
  obtain ⟨-, m2, m3⟩ := times_math hn hk
  have u1 : U64 (loOf (hiOf n * k)) := lo_u64 _
  have u2 : U64 (hiOf (loOf n * k)) := hi_u64 (siz_mul (lo_u64 n) hk)
  obtain ⟨v, v1, v2⟩ : ∃ v, sumW (loOf (hiOf n * k)) (hiOf (loOf n * k)) 0 = hiOf v ∧ loOf (n * k) = loOf v := ⟨sumW (loOf (hiOf n * k)) (hiOf (loOf n * k)) 0 * 18446744073709551616 + loOf (n * k), (hi_mk _ _ (lo_u64 _)).symm, (lo_mk _ _ (lo_u64 _)).symm⟩
  rcases m2 h with e1 | ⟨e1, e2⟩
  all_goals
    clear m2 h
    go_enter Try.func62, Try.ntmps62
    go_wp2_with fail
    refine (mul64_any _ _ (lo_u64 n) hk _).mono ?_
    rintro e w' ⟨rfl, rfl⟩
    go_wp2_with fail
    refine (mul64_any _ _ (hi_u64 hn) hk _).mono ?_
    rintro e w' ⟨rfl, rfl⟩
    go_wp2_with (simp only [add64n _ _ 0 u1 u2 (Int.le_refl 0) (by decide)])
    simp [bodyPost, results, Try.results62, go_sem]
    refine ⟨⟨v, rfl, rfl⟩, ?_⟩
    repeat (first | exact Below.refl _ _ | refine bl_alloc ?_ _ | refine Below.drew ?_ | refine bl_drewN ?_ _ | refine bl_set ?_ (by omega) _ | refine bl_step ?_ (by assumption))
set_option maxRecDepth 100000 in
theorem plus_no (n k : Int) (hn : Siz n) (hk : U64 k) (h : ¬ Siz (n + k)) (w : World) :
    Calls Try.prog 54 #[sv n, .int .u64 k] w fun e w' => (∃ v, e = .returned (.tuple #[sv v, .bool false])) ∧ Below w.heap.size w w' := by
  have e3 := plus_no_math h
  have u1 := hi_u64 hn
  have u2 : U64 0 := ⟨by decide, by decide⟩
  obtain ⟨k0, k1⟩ := carW_01 (lo_u64 n) hk (Int.le_refl 0) (by decide : (0:Int) ≤ 1)
  obtain ⟨v, v1, v2⟩ : ∃ v, sumW (hiOf n) 0 (carW (loOf n) k 0) = hiOf v ∧ sumW (loOf n) k 0 = loOf v := ⟨sumW (hiOf n) 0 (carW (loOf n) k 0) * 18446744073709551616 + sumW (loOf n) k 0, (hi_mk _ _ (sumW_u64 _ _ _)).symm, (lo_mk _ _ (sumW_u64 _ _ _)).symm⟩
  clear h
  go_enter Try.func54, Try.ntmps54
  go_wp2_with (first | simp only [add64n (loOf n) k 0 (lo_u64 n) hk (Int.le_refl 0) (by decide)] | simp only [add64n (hiOf n) 0 _ u1 u2 k0 k1])
  simp [bodyPost, results, Try.results54, go_sem]
  refine ⟨⟨v, rfl, rfl⟩, ?_⟩
  repeat (first | exact Below.refl _ _ | refine bl_alloc ?_ _ | refine Below.drew ?_ | refine bl_drewN ?_ _ | refine bl_set ?_ (by omega) _ | refine bl_step ?_ (by assumption))
end Go.Proofs.Ytffhbfdbahdhoab.Wd
