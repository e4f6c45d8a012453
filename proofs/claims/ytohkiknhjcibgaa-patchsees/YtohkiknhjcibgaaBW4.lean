/- maskEnd. -/
import Derived.Test.YtohkiknhjcibgaaBW3
import Derived.StillTailTactics
namespace Go.Proofs.Ytohkiknhjcibgaa
open Go.RowKit

/-- Nothing old has turned but the block g. -/
structure But (g : Nat) (w w' : World) : Prop where
  os : w'.os = w.os
  tape : w'.tape = w.tape
  output : w'.output = w.output
  size : w.heap.size ≤ w'.heap.size
  block : ∀ k, k < w.heap.size → k ≠ g → w'.heap[k]? = w.heap[k]?
theorem But.below {g B : Nat} {a w w' : World} (h : But g w w') (hg : B ≤ g) (hB : B ≤ w.heap.size) (h0 : Below B a w) : Below B a w' :=
  ⟨h.os.trans h0.os, h.tape.trans h0.tape, h.output.trans h0.output, Nat.le_trans h0.size h.size, fun k hk => (h.block k (by omega) (by omega)).trans (h0.block k hk)⟩
theorem But.row {g b t n : Nat} {f : Nat → Value} {w w' : World} (h : But g w w') (hb : b ≠ g) (hr : w.rowIs b t n f) : w'.rowIs b t n f := hr.of_block (h.block _ hr.lt hb)
theorem But.of_below {g : Nat} {w w' : World} (h : Below w.heap.size w w') : But g w w' := ⟨h.os, h.tape, h.output, h.size, fun k hk _ => h.block k hk⟩
theorem But.set {g o : Nat} {w w' : World} (h : But g w w') (v : Value) : But g w (w'.setCell ⟨g, o, none⟩ v) :=
  ⟨h.os, h.tape, h.output, by simpa using h.size, fun k hk hne => (Below.heap_setCell w' ⟨g, o, none⟩ v k hne).trans (h.block k hk hne)⟩
theorem But.drewN {g : Nat} {w w' : World} (h : But g w w') (n : Nat) : But g w (w'.drewN n) := by
  induction n with
  | zero => exact h
  | succ n ih => exact ⟨ih.os, ih.tape, ih.output, ih.size, ih.block⟩
theorem row_ne {w : World} {b b' t t' n n' : Nat} {f f' : Nat → Value} (h : w.rowIs b t n f) (h' : w.rowIs b' t' n' f') (ht : t ≠ t') : b ≠ b' := by
  rintro rfl
  obtain ⟨c, e, _⟩ := h
  obtain ⟨c', e', _⟩ := h'
  rw [e] at e'
  exact ht (by injection e' with e'; injection e')
theorem row_drewN {w : World} {b t n : Nat} {f : Nat → Value} (h : w.rowIs b t n f) (k : Nat) : (w.drewN k).rowIs b t n f := by
  induction k with
  | zero => exact h
  | succ k ih => exact ih
/-- The cells of a struct of a row. -/
def sf (n : Int) (ao : Option Addr) (m cap : Nat) : Nat → Value := fun k => if k = 0 then .int .i64 n else .slice ao m cap
theorem row_new (w : World) (n : Int) (ao : Option Addr) (m cap : Nat) (t : TypeId) : (w.alloc (.cells #[.int .i64 n, .slice ao m cap] t)).rowIs w.heap.size t 2 (sf n ao m cap) :=
  World.rowIs_alloc w _ t _ (fun i hi => by
    rcases i with _ | _ | i
    · rfl
    · rfl
    · simp at hi; omega)

theorem sf_len {w : World} {b : Nat} {n : Int} {ao : Option Addr} {m cap t : Nat} (h : w.rowIs b t 2 (sf n ao m cap)) : w.cell? ⟨b, 0, none⟩ = some (.int .i64 n) := h.cell (by omega)
theorem sf_ws {w : World} {b : Nat} {n : Int} {ao : Option Addr} {m cap t : Nat} (h : w.rowIs b t 2 (sf n ao m cap)) : w.cell? ⟨b, 1, none⟩ = some (.slice ao m cap) := h.cell (by omega)
theorem follows : Try.prog.follows .mixedOrders = true := by kernel_rfl
theorem still_tail {id : Nat} {Q : Exit → Act → World → Prop} {a : Act} {w : World} {l : List Oper} (n : Nat) (hB : Region.lexTailB .any l.toArray n = true)
    (h : wpStill Try.prog l.toArray w.drew (fun a' => wpList Try.prog l.toArray Q (l.drop n) a' w.drew) (l.take n) a) : (Code.region id l.toArray true).wp Try.prog Q a w := wp_region_still_tail n follows hB h
end Go.Proofs.Ytohkiknhjcibgaa
