/- Unpack, EqSigns. -/
import Derived.Test.YtohkiknhjcibgaaBW12
namespace Go.Proofs.Ytohkiknhjcibgaa
open Go.RowKit

/-- A bit as a small number. -/
def sg (N k : Nat) : Int := if N.testBit k then 1 else -1
def gf (N : Nat) : Nat → Value := fun k => .int .i8 (sg N k)
/-- The first i numbers, 0 behind them. -/
def qfu (N i : Nat) : Nat → Value := fun k => if k < i then gf N k else .int .i8 0
theorem qrow_step {w : World} {g m N i : Nat} {v : Value} (h : w.rowIs g 50 m (qfu N i)) (e : v = gf N i) : (w.setCell ⟨g, i, none⟩ v).rowIs g 50 m (qfu N (i + 1)) := by
  subst e
  refine (h.set i _).congr fun j _ => ?_
  unfold qfu
  by_cases e : j = i
  · subst e; simp
  · rw [if_neg e]
    by_cases h : j < i
    · rw [if_pos h, if_pos (by omega)]
    · rw [if_neg h, if_neg (by omega)]
theorem qrow_full {w : World} {g m N : Nat} (h : w.rowIs g 50 m (qfu N m)) : w.rowIs g 50 m (gf N) := h.congr fun k hk => by simp [qfu, hk]
theorem bit_of (N q r : Nat) (hr : r < 64) : wd N q / 2 ^ r &&& 1 = (N.testBit (64 * q + r)).toNat := by
  have h := wd_bit N q r
  simp only [hr, decide_true, Bool.true_and] at h
  rw [← h, Nat.testBit_eq_decide_div_mod_eq, Nat.and_one_is_mod]
  rcases Nat.mod_two_eq_zero_or_one (wd N q / 2 ^ r) with e | e <;> simp [e]
theorem sg_int (N q r : Nat) (hr : r < 64) : IntKind.i8.wrap (IntKind.i8.wrap (2 * IntKind.i8.wrap (bits .and .u64 ((wd N q : Int) / 2 ^ r) 1)) - 1) = sg N (64 * q + r) := by
  have e : bits .and .u64 ((wd N q / 2 ^ r : Nat) : Int) 1 = ((wd N q / 2 ^ r &&& 1 : Nat) : Int) := and_u64 (wd N q / 2 ^ r) 1 (Nat.lt_of_le_of_lt (Nat.div_le_self _ _) (wd_lt _ _)) (by decide)
  rw [shr_int, e, bit_of N q r hr]
  unfold sg
  cases N.testBit (64 * q + r) <;> decide
/-- The slice reads as these signs. -/
def Rs (w : World) (ao : Option Addr) (m : Nat) (f : Nat → Value) : Prop := ∀ k, k < m → ∃ g o, ao = some ⟨g, o, none⟩ ∧ w.cell? ⟨g, o + k, none⟩ = some (f k)
theorem Rs.below {w w' : World} {ao : Option Addr} {m : Nat} {f : Nat → Value} (h : Rs w ao m f) (hb : Below w.heap.size w w') : Rs w' ao m f :=
  fun k hk => by obtain ⟨g, o, e, c⟩ := h k hk; exact ⟨g, o, e, keepc hb c⟩
end Go.Proofs.Ytohkiknhjcibgaa
