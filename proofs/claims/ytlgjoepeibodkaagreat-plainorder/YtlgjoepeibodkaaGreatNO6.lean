/- bound.Net of every network, walked. -/
import Derived.Test.YtlgjoepeibodkaaGreatNO5
namespace Go.Proofs.YtlgjoepeibodkaaGreat.Nn
open Go.RowKit

abbrev tri3 (x y z : Int) : Nat → Value := fun i => .int .i64 (if i = 0 then x else if i = 1 then y else z)
theorem tri_set {W : World} {g : Nat} {t : TypeId} {x y z : Int} (h : W.rowIs g t 3 (tri3 x y z)) (u v s : Int) : (((W.setCell ⟨g, 0, none⟩ (.int .i64 u)).setCell ⟨g, 1, none⟩ (.int .i64 v)).setCell ⟨g, 2, none⟩ (.int .i64 s)).rowIs g t 3 (tri3 u v s) := by
  have h1 := ((h.set 0 (.int .i64 u)).set 1 (.int .i64 v)).set 2 (.int .i64 s)
  refine h1.congr fun i hi => ?_
  rcases i with _ | _ | _ | i
  · rfl
  · rfl
  · rfl
  · omega
theorem heap_three {Y : World} {b c i j k : Nat} {u v x : Value} (hn : b ≠ c) : (((Y.setCell ⟨c, i, none⟩ u).setCell ⟨c, j, none⟩ v).setCell ⟨c, k, none⟩ x).heap[b]? = Y.heap[b]? := by rw [Below.heap_setCell _ _ _ _ (by show b ≠ c; exact hn), heap_two hn]
theorem cell_three {Y : World} {b c i j k l : Nat} {u v x z : Value} (h : Y.cell? ⟨b, l, none⟩ = some z) (hn : b ≠ c) : (((Y.setCell ⟨c, i, none⟩ u).setCell ⟨c, j, none⟩ v).setCell ⟨c, k, none⟩ x).cell? ⟨b, l, none⟩ = some z := (World.cell?_of_block (w := Y) (heap_three hn)).trans h
end Go.Proofs.YtlgjoepeibodkaaGreat.Nn
