import Derived.Test.YtffhbfdbahdhoabW13
import Derived.Deep.DeepCutAuto
namespace Go.Proofs.Ytffhbfdbahdhoab.Wd
open Go.RowKit Go.Shelf
attribute [local go_sem ↓] Go.wp_at_zero Go.wp_at_succ

theorem new0 (W : World) (a b : Value) (t : TypeId) : (W.alloc (.cells #[a, b] t)).drew.cell? ⟨W.heap.size, 0, none⟩ = some a := by simp [go_sem]
theorem new1 (W : World) (a b : Value) (t : TypeId) : (W.alloc (.cells #[a, b] t)).drew.cell? ⟨W.heap.size, 1, none⟩ = some b := by simp [go_sem]
theorem newf (W : World) (a b : Value) (t : TypeId) (o : Nat) : (W.alloc (.cells #[a, b] t)).drew.frozen? ⟨W.heap.size, o, none⟩ = false := by simp [go_sem]
theorem newlt (W : World) (o : Obj) : W.heap.size < (W.alloc o).drew.heap.size := by simp
theorem new0' (W : World) (a b : Value) (t : TypeId) : (W.alloc (.cells #[a, b] t)).cell? ⟨W.heap.size, 0, none⟩ = some a := by simp [go_sem]
theorem new1' (W : World) (a b : Value) (t : TypeId) : (W.alloc (.cells #[a, b] t)).cell? ⟨W.heap.size, 1, none⟩ = some b := by simp [go_sem]
theorem newf' (W : World) (a b : Value) (t : TypeId) (o : Nat) : (W.alloc (.cells #[a, b] t)).frozen? ⟨W.heap.size, o, none⟩ = false := by simp [go_sem]
theorem newlt' (W : World) (o : Obj) : W.heap.size < (W.alloc o).heap.size := by simp
theorem lt_of_cell {W : World} {b o : Nat} {v : Value} (h : W.cell? ⟨b, o, none⟩ = some v) : b < W.heap.size := World.block_lt_of_cell? W ⟨b, o, none⟩ h
theorem gen_calls {P : Program} {f : FuncId} {args : Array Value} {Q : Ending → World → Prop} {W : World} (p : World → Prop) (hp : p W) (h : ∀ W', p W' → Calls P f args W' Q) : Calls P f args W Q := h W hp
theorem with_fact {T G : Prop} (h : T) (k : T → G) : G := k h

end Go.Proofs.Ytffhbfdbahdhoab.Wd
