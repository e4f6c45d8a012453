/- Unpack. -/
import Derived.Test.YtlgjoepeibodkaaGreatDW5
namespace Go.Proofs.YtlgjoepeibodkaaGreat
open Go.RowKit
attribute [local go_sem ↓] Go.wp_at_zero Go.wp_at_succ

theorem info_i8 : (Tryz.prog.info? 39).map (fun i => (i.zero, i.size, i.bytes)) = some (some (.int .i8 0), 1, 1) := by kernel_rfl
theorem und_i8s : Tryz.prog.underlying 34 = some (.slice 39) := by kernel_rfl
theorem But.refl' (g : Nat) (w : World) : But g w w := ⟨rfl, rfl, rfl, Nat.le_refl _, fun _ _ _ => rfl⟩
theorem But.drew' {g : Nat} {w w' : World} (h : But g w w') : But g w w'.drew := ⟨h.os, h.tape, h.output, h.size, h.block⟩
theorem But.step {g : Nat} {w W w' : World} (h : But g w W) (hb : Below W.heap.size W w') : But g w w' :=
  ⟨hb.os.trans h.os, hb.tape.trans h.tape, hb.output.trans h.output, Nat.le_trans h.size hb.size, fun k hk hne => (hb.block k (Nat.lt_of_lt_of_le hk h.size)).trans (h.block k hk hne)⟩
/-- Nothing older than w has turned, and of what wr has nothing but the block g. -/
def Bz (w : World) (g : Nat) (wr X : World) : Prop := Below w.heap.size w X ∧ But g wr X
theorem Bz.start {w wr : World} {g : Nat} (h : Below w.heap.size w wr) : Bz w g wr wr := ⟨h, But.refl' _ _⟩
theorem Bz.drew {w wr X : World} {g : Nat} (h : Bz w g wr X) : Bz w g wr X.drew := ⟨h.1.drew, h.2.drew'⟩
theorem Bz.step {w wr X Y : World} {g : Nat} (h : Bz w g wr X) (hb : Below X.heap.size X Y) : Bz w g wr Y := ⟨bl_step h.1 hb, h.2.step hb⟩
theorem Bz.set {w wr X : World} {g o : Nat} (h : Bz w g wr X) (hg : w.heap.size ≤ g) (v : Value) : Bz w g wr (X.setCell ⟨g, o, none⟩ v) := ⟨bl_set h.1 hg v, h.2.set v⟩
theorem kpq {w W X : World} {bx g t : Nat} {A B : Bt} (h1 : W.rowIs bx t 4 (qf A B)) (hne : bx ≠ g) (hb : Bz w g W X) :
    X.cell? ⟨bx, 0, none⟩ = some (.int .i64 A.n) ∧ X.cell? ⟨bx, 1, none⟩ = some (.slice A.ao A.m A.cap) ∧ X.cell? ⟨bx, 2, none⟩ = some (.int .i64 B.n) ∧ X.cell? ⟨bx, 3, none⟩ = some (.slice B.ao B.m B.cap) := by
  have r := hb.2.row hne h1
  exact ⟨q0 r, q1 r, q2 r, q3 r⟩
/-- The weights, as cells; the first k of them. -/
def wc (S M : Nat) : Nat → Value := fun j => .int .i8 (wt S M j)
def wcK (S M k : Nat) : Nat → Value := fun j => if j < k then wc S M j else .int .i8 0
theorem wcK_full {S M n j : Nat} (h : j < n) : wcK S M n j = wc S M j := by unfold wcK; rw [if_pos h]
theorem wcK_step {S M k j : Nat} : (if j = k then wc S M k else wcK S M k j) = wcK S M (k + 1) j := by
  unfold wcK
  by_cases e : j = k
  · subst e; simp
  · rw [if_neg e]
    by_cases h : j < k
    · rw [if_pos h, if_pos (by omega)]
    · rw [if_neg h, if_neg (by omega)]
theorem wc_put {w : World} {g n k S M t : Nat} {x : Int} (h : w.rowIs g t n (wcK S M k)) (e : x = wt S M k) : (w.setCell ⟨g, k, none⟩ (.int .i8 x)).rowIs g t n (wcK S M (k + 1)) := by
  subst e
  exact (h.set k _).congr fun j _ => wcK_step
theorem sub_bit {S M i : Nat} (h : S &&& M = S) (hi : S.testBit i = true) : M.testBit i = true := by
  have := congrArg (fun x => Nat.testBit x i) h
  simp only [Nat.testBit_and, hi, Bool.true_and] at this
  exact this
theorem wt_i8 {S M i : Nat} (h : S &&& M = S) : IntKind.i8.wrap (IntKind.i8.wrap (2 * ((S.testBit i).toNat : Int)) - (M.testBit i).toNat) = wt S M i := by
  unfold wt
  cases hs : S.testBit i
  · cases M.testBit i <;> rfl
  · rw [sub_bit h hs]; rfl
theorem wt_bd (S M i : Nat) : -1 ≤ wt S M i ∧ wt S M i ≤ 1 := by
  unfold wt; cases M.testBit i <;> cases S.testBit i <;> decide

end Go.Proofs.YtlgjoepeibodkaaGreat
