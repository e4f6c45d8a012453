import Derived.Test.YtffhbfdbahdhoabW2
import Derived.Test.YtffhbfdbahdhoabM3
import Derived.Test.YtffhbfdbahdhoabShelf
namespace Go.Proofs.Ytffhbfdbahdhoab.Wd
open Go.RowKit Go.Shelf
attribute [local go_sem ↓] Go.wp_at_zero Go.wp_at_succ

theorem keepc {W w' : World} (hb : Below W.heap.size W w') {b o : Nat} {v : Value} (h : W.cell? ⟨b, o, none⟩ = some v) : w'.cell? ⟨b, o, none⟩ = some v := by
  by_cases hlt : b < W.heap.size
  · exact (hb.cell (p := ⟨b, o, none⟩) hlt).trans h
  · exfalso
    have e : W.heap[b]? = none := Array.getElem?_eq_none (by omega)
    simp [World.cell?, e] at h

theorem mul64_any (x y : Int) (hx : U64 x) (hy : U64 y) (w : World) :
    Calls Try.prog 65 #[.int .u64 x, .int .u64 y] w fun e w' => e = .returned (.tuple #[.int .u64 (hiOf (x * y)), .int .u64 (loOf (x * y))]) ∧ w' = w := by
  obtain ⟨a, b⟩ := hx; obtain ⟨c, d⟩ := hy
  obtain ⟨x, rfl⟩ := Int.eq_ofNat_of_zero_le a
  obtain ⟨y, rfl⟩ := Int.eq_ofNat_of_zero_le c
  refine (Try.bits_Mul64 x y (by omega) (by omega) w).mono ?_
  rintro e w' ⟨rfl, rfl⟩
  exact ⟨by unfold hiOf loOf; simp, rfl⟩

theorem sgN_mul (a b : Int) : sgN (absN a * absN b) (!decide (a < 0) == decide (b < 0)) = a * b := abs_mul a b
set_option maxRecDepth 100000 in
theorem fit_ok (n : Int) (hn : I64 n) (w : World) :
    Calls Try.prog 50 #[wv n] w fun e w' => e = .returned (.tuple #[.int .i64 n, .int .i64 0]) ∧ Below w.heap.size w w' := by
  have e1 := fit_lo hn
  go_enter Try.func50, Try.ntmps50
  go_wp2_with fail
  go_region_held3 (fun w' => w'.cell? ⟨w.heap.size, 0, none⟩ = some (.int .i64 (hiOf n)) ∧ w'.cell? ⟨w.heap.size, 1, none⟩ = some (.int .u64 (loOf n))) (first | (simp [go_sem]; done) | exact ⟨keepc hb (by simp [go_sem]), keepc hb (by simp [go_sem])⟩)
    (first | (go_at_call 46; refine (of_any n hn _).mono ?_; rintro e w' ⟨rfl, hb⟩))
  go_wp2
  go_ret2
  refine ⟨rfl, ?_⟩
  repeat (first | exact Below.refl _ _ | refine bl_alloc ?_ _ | refine Below.drew ?_ | refine bl_set ?_ (by omega) _ | refine bl_step ?_ (by assumption))
end Go.Proofs.Ytffhbfdbahdhoab.Wd
