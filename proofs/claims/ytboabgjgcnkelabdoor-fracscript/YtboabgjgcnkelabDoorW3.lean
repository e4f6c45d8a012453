import Derived.Test.YtboabgjgcnkelabDoorW2
import Derived.Test.YtboabgjgcnkelabDoorM3
import Derived.Test.YtboabgjgcnkelabDoorShelf
namespace Go.Proofs.YtboabgjgcnkelabDoor
open Go.RowKit Go.Shelf
attribute [local go_sem ↓] Go.wp_at_zero Go.wp_at_succ

theorem keepc {W w' : World} (hb : Below W.heap.size W w') {b o : Nat} {v : Value} (h : W.cell? ⟨b, o, none⟩ = some v) : w'.cell? ⟨b, o, none⟩ = some v := by
  by_cases hlt : b < W.heap.size
  · exact (hb.cell (p := ⟨b, o, none⟩) hlt).trans h
  · exfalso
    have e : W.heap[b]? = none := Array.getElem?_eq_none (by omega)
    simp [World.cell?, e] at h

theorem mul64_any (x y : Int) (hx : U64 x) (hy : U64 y) (w : World) :
    Calls Tryd.prog 89 #[.int .u64 x, .int .u64 y] w fun e w' => e = .returned (.tuple #[.int .u64 (hiOf (x * y)), .int .u64 (loOf (x * y))]) ∧ w' = w := by
  obtain ⟨a, b⟩ := hx; obtain ⟨c, d⟩ := hy
  obtain ⟨x, rfl⟩ := Int.eq_ofNat_of_zero_le a
  obtain ⟨y, rfl⟩ := Int.eq_ofNat_of_zero_le c
  refine (Tryd.bits_Mul64 x y (by omega) (by omega) w).mono ?_
  rintro e w' ⟨rfl, rfl⟩
  exact ⟨by unfold hiOf loOf; simp, rfl⟩

theorem sgN_mul (a b : Int) : sgN (absN a * absN b) (!decide (a < 0) == decide (b < 0)) = a * b := abs_mul a b
end Go.Proofs.YtboabgjgcnkelabDoor
