/- Signs. -/
import Derived.Test.YtlgjoepeibodkaaGreatDW3
namespace Go.Proofs.YtlgjoepeibodkaaGreat
open Go.RowKit

theorem row_drewN' {w : World} {b t n : Nat} {f : Nat → Value} (h : w.rowIs b t n f) (k : Nat) : (w.drewN k).rowIs b t n f := row_drewN h k
/-- What Signs tells. -/
def sgE (A B X : Bt) : Int := if dck A B ≠ 0 then dck A B else if ftB X.n X.m X.N A.n = true then 0 else 20
def sgV (A B X : Bt) : Int := if sgE A B X = 0 then tq B.N A.N X.N A.n.toNat else 0
theorem sgE_bad {A B X : Bt} (h : dck A B ≠ 0) : sgE A B X = dck A B := by unfold sgE; rw [if_pos h]
theorem sgV_bad {A B X : Bt} (h : dck A B ≠ 0) : sgV A B X = 0 := by unfold sgV; rw [if_neg (by rw [sgE_bad h]; exact h)]
theorem tq_end {C A B n : Nat} (h : C < 2 ^ n) : tq C A B (64 * nw n) = tq C A B n := tq_above h A B (nw_le n)
end Go.Proofs.YtlgjoepeibodkaaGreat
