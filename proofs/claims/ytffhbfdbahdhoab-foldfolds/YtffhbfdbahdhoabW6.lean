import Derived.Test.YtffhbfdbahdhoabW5
namespace Go.Proofs.Ytffhbfdbahdhoab.Wd
open Go.RowKit Go.Shelf

theorem div64_any (h l y : Int) (hh : U64 h) (hl : U64 l) (hy : U64 y) (hlt : h < y) (w : World) :
    Calls Try.prog 64 #[.int .u64 h, .int .u64 l, .int .u64 y] w fun e w' => e = .returned (.tuple #[.int .u64 ((h * 18446744073709551616 + l) / y), .int .u64 ((h * 18446744073709551616 + l) % y)]) ∧ Below w.heap.size w w' := by
  by_cases h0 : h = 0
  · subst h0
    have e : (0 : Int) * 18446744073709551616 + l = l := by omega
    rw [e]
    exact div64_hi0 l y hl hy (by omega) w
  · exact div64_big h l y hh hl hy hlt (by have := hh.1; omega) w

set_option maxRecDepth 100000 in
theorem parted_any (n y : Int) (hn : Siz n) (hy : U64 y) (h0 : 0 < y) (w : World) :
    Calls Try.prog 52 #[sv n, .int .u64 y] w fun e w' => e = .returned (.tuple #[sv (n / y), .int .u64 (n % y)]) ∧ Below w.heap.size w w' := by
  obtain ⟨e1, e2, e3⟩ := parted_math (n := n) h0
  have ry := rest_u64 (x := hiOf n) hy h0
  have rl := Int.emod_lt_of_pos (hiOf n) h0
  obtain ⟨r, hr⟩ : ∃ r, hiOf n % y = r := ⟨_, rfl⟩
  rw [hr] at e2 e3 ry rl
  have E2 := hid1 e2; have E3 := hid1 e3
  have HR := hid1 hr
  clear e2 e3 hr
  go_enter Try.func52, Try.ntmps52
  go_wp2_with fail
  refine (div64_hi0 (hiOf n) y (hi_u64 hn) hy h0 _).mono ?_
  rintro e w1 ⟨rfl, hb1⟩
  rw [HR.out]
  obtain ⟨hc, hf⟩ := bcell hb1
  have c0 := hc w.heap.size 0 (by simp <;> omega); have c1 := hc w.heap.size 1 (by simp <;> omega)
  have c2 := hc (w.heap.size + 1) 0 (by simp); have c3 := hc (w.heap.size + 1) 1 (by simp)
  have f2 := hf (w.heap.size + 1) 0 (by simp); have f3 := hf (w.heap.size + 1) 1 (by simp)
  have hz := hb1.size
  simp [go_sem] at c0 c1 c2 c3 f2 f3 hz
  clear hc hf
  go_wp2_with fail
  refine (div64_any r (loOf n) y ry (lo_u64 n) hy rl _).mono ?_
  rintro e w2 ⟨rfl, hb2⟩
  rw [E2.out, E3.out]
  have d2 := keepc hb2 c2; have d3 := keepc hb2 c3
  have g2 := keepf hb2 (by omega) f2; have g3 := keepf hb2 (by omega) f3
  clear c0 c1 c2 c3 f2 f3 hz
  go_wp2
  simp [bodyPost, results, Try.results52, go_sem, d2, d3]
  repeat (first | exact Below.refl _ _ | refine bl_alloc ?_ _ | refine Below.drew ?_ | refine bl_drewN ?_ _ | refine bl_set ?_ (by omega) _ | refine bl_step ?_ (by assumption))
theorem parts_well (a b : Int) (ha : Rng a) (hb : I64 b) (h0 : b ≠ 0) : PartsWell a b := fun w =>
  parted_any _ _ (absN_siz ha) (absN_u64 hb) (absN_pos h0) w
end Go.Proofs.Ytffhbfdbahdhoab.Wd
