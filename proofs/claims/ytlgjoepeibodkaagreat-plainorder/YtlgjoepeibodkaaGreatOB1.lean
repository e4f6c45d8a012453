/- bound: rows counted by bits; reaches. -/
import Derived.Test.YtlgjoepeibodkaaGreatDW7
import Derived.Deep.RegionHeld3
import Derived.Deep.DeepCutAuto
namespace Go.Proofs.YtlgjoepeibodkaaGreat
open Go.RowKit

theorem pcO_bd {N k n : Nat} (h : k ≤ n) : pc N (64 * k) ≤ 64 * n := Nat.le_trans (pc_le _ _) (by omega)
abbrev duo (a b : Int) : Value := .agg #[.int .i64 a, .int .i64 b]
/-- Two numbers' cells. -/
def duf (a b : Int) : Nat → Value := fun k => if k = 0 then .int .i64 a else .int .i64 b
theorem du_new (w : World) (a b : Int) (t : TypeId) : (w.alloc (.cells #[.int .i64 a, .int .i64 b] t)).rowIs w.heap.size t 2 (duf a b) :=
  World.rowIs_alloc w _ t _ (fun i hi => by
    rcases i with _ | _ | i
    · rfl
    · rfl
    · simp at hi; omega)
theorem du0 {w : World} {b t : Nat} {x y : Int} (h : w.rowIs b t 2 (duf x y)) : w.cell? ⟨b, 0, none⟩ = some (.int .i64 x) := h.cell (by omega)
theorem du1 {w : World} {b t : Nat} {x y : Int} (h : w.rowIs b t 2 (duf x y)) : w.cell? ⟨b, 1, none⟩ = some (.int .i64 y) := h.cell (by omega)

def maR (lo hi : Int) : Prop := -2147483647 ≤ lo ∧ lo ≤ hi ∧ hi ≤ 2147483647
instance (lo hi : Int) : Decidable (maR lo hi) := by unfold maR; infer_instance
end Go.Proofs.YtlgjoepeibodkaaGreat
