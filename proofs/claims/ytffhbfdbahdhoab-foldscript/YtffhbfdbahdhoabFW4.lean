/- PRODUCT OF FOUR NUMBERS. -/
import Derived.Test.YtffhbfdbahdhoabFW3
namespace Go.Proofs.Ytffhbfdbahdhoab.Wd
open Go.RowKit Go.Shelf
attribute [local go_sem ↓] Go.wp_at_zero Go.wp_at_succ

/-- The four factors in memory. -/
def F4 (w : World) (g : Nat) (a b c d : Int) : Prop :=
  w.cell? ⟨g, 0, none⟩ = some (.int .i64 a) ∧ w.cell? ⟨g, 1, none⟩ = some (.int .i64 b) ∧ w.cell? ⟨g, 2, none⟩ = some (.int .i64 c) ∧ w.cell? ⟨g, 3, none⟩ = some (.int .i64 d)
theorem F4.keep {w w' : World} {g : Nat} {a b c d : Int} (h : F4 w g a b c d) (hb : Below w.heap.size w w') : F4 w' g a b c d := by
  obtain ⟨p, q, r, s⟩ := h
  exact ⟨keepc hb p, keepc hb q, keepc hb r, keepc hb s⟩
/-- The two cells of a number, and that they may be written. -/
def Wc (w : World) (b : Nat) (n : Int) : Prop := w.cell? ⟨b, 0, none⟩ = some (.int .i64 (hiOf n)) ∧ w.cell? ⟨b, 1, none⟩ = some (.int .u64 (loOf n)) ∧ w.frozen? ⟨b, 0, none⟩ = false ∧ w.frozen? ⟨b, 1, none⟩ = false
theorem Wc.keep {w w' : World} {b : Nat} {n : Int} (h : Wc w b n) (hb : Below w.heap.size w w') : Wc w' b n := by
  have z := lt_of_cell h.1
  exact ⟨keepc hb h.1, keepc hb h.2.1, keepf hb z h.2.2.1, keepf hb z h.2.2.2⟩
theorem hi_zero : hiOf 0 = 0 := by unfold hiOf; omega
theorem lo_zero : loOf 0 = 0 := by unfold loOf; omega
theorem fitV_rng {n : Int} (h : Rng n) : fitV n = n := by unfold fitV; exact if_pos h
end Go.Proofs.Ytffhbfdbahdhoab.Wd
