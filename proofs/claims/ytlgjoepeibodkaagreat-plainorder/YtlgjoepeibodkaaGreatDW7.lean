/- Pack. -/
import Derived.Test.YtlgjoepeibodkaaGreatDW6
namespace Go.Proofs.YtlgjoepeibodkaaGreat
open Go.RowKit

/-- All are weights. -/
def Wok (l : List Int) (N : Nat) : Prop := ∀ i, i < N → -1 ≤ ia l i ∧ ia l i ≤ 1
/-- Where a weight is not 0. -/
def nz (l : List Int) (i : Nat) : Bool := decide (ia l i ≠ 0)
def zb : Bt := ⟨0, none, 0, 0, 0⟩
theorem rw_zero {w : World} {b t : Nat} (h : w.rowIs b t 4 (qf zb zb)) : w.cell? ⟨b, 0, none⟩ = some (.int .i64 0) ∧ w.cell? ⟨b, 1, none⟩ = some (.slice none 0 0) ∧ w.cell? ⟨b, 2, none⟩ = some (.int .i64 0) ∧ w.cell? ⟨b, 3, none⟩ = some (.slice none 0 0) := ⟨q0 h, q1 h, q2 h, q3 h⟩
/-- A row of n bits in memory of its own. -/
abbrev ob (n g N : Nat) : Bt := ⟨n, some ⟨g, 0, none⟩, nw n, nw n, N⟩
theorem pk_pos {l : List Int} {k : Nat} (h : 0 < ia l k) : pk l (k + 1) = pk l k ||| 2 ^ k := by simp only [pk]; rw [if_pos h]
theorem pk_not {l : List Int} {k : Nat} (h : ¬ 0 < ia l k) : pk l (k + 1) = pk l k := by simp only [pk]; rw [if_neg h]; simp
theorem nz_set {l : List Int} {k : Nat} (h : ia l k ≠ 0) : bn (nz l) (k + 1) = bn (nz l) k ||| 2 ^ k := by simp only [bn]; rw [if_pos (by simp [nz, h])]
theorem nz_not {l : List Int} {k : Nat} (h : ia l k = 0) : bn (nz l) (k + 1) = bn (nz l) k := by simp only [bn]; rw [if_neg (by simp [nz, h])]; simp

end Go.Proofs.YtlgjoepeibodkaaGreat
