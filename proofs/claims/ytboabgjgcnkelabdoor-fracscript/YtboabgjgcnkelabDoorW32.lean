import Derived.Test.YtboabgjgcnkelabDoorW31
namespace Go.Proofs.YtboabgjgcnkelabDoor
open Go.RowKit Go.Shelf
attribute [local go_sem ↓] Go.wp_at_zero Go.wp_at_succ

theorem big_bd {m : Int} (h : -(65536 ^ 16 : Nat) < m ∧ m < (65536 ^ 16 : Nat)) : (m.natAbs : Int) < 65536 ^ 40 := by
  have h1 : (m.natAbs : Int) < ((65536 ^ 16 : Nat) : Int) := by
    generalize (65536 ^ 16 : Nat) = p at *
    omega
  exact Int.lt_of_lt_of_le h1 (by decide)

theorem kps {X : World} {g r : Nat} {u v p q : Value} (a : X.cell? ⟨g, 0, none⟩ = some u) (b : X.cell? ⟨g, 1, none⟩ = some v) (hne : g ≠ r) :
    ((X.setCell ⟨r, 0, none⟩ p).setCell ⟨r, 1, none⟩ q).cell? ⟨g, 0, none⟩ = some u ∧ ((X.setCell ⟨r, 0, none⟩ p).setCell ⟨r, 1, none⟩ q).cell? ⟨g, 1, none⟩ = some v := by
  refine ⟨?_, ?_⟩ <;> simp [go_sem, *]
theorem kpb {W w' : World} {g : Nat} {u v : Value} (hb : Below W.heap.size W w') (a : W.cell? ⟨g, 0, none⟩ = some u) (b : W.cell? ⟨g, 1, none⟩ = some v) : w'.cell? ⟨g, 0, none⟩ = some u ∧ w'.cell? ⟨g, 1, none⟩ = some v := ⟨keepc hb a, keepc hb b⟩
end Go.Proofs.YtboabgjgcnkelabDoor
