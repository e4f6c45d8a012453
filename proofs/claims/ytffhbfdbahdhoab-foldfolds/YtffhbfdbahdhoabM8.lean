/-
  PLAIN MATHEMATICS: which texts are read, and as what.
-/
import Derived.Test.YtffhbfdbahdhoabM7
namespace Go.Proofs.Ytffhbfdbahdhoab.Wd
open Go.RowKit

/-- A text without its sign, and whether it had one. -/
def cutNeg (l : List UInt8) : Bool := match l with
  | c :: _ => c == 45
  | [] => false
def cutRest (l : List UInt8) : List UInt8 := if cutNeg l then l.tail else l
/-- Is this how a number that is not negative is written? -/
def isWr (d : List UInt8) : Bool := match d with
  | [] => false
  | c :: r => (c != 48 || r == []) && (c :: r).all isDig
def sgB (n : Int) (minus : Bool) : Int := if minus then -n else n
def readOk (l : List UInt8) : Bool := isWr (cutRest l) && !(cutNeg l && (cutRest l == [48]))
def readV (l : List UInt8) : Int := if readOk l then fitV (sgB (valD 0 (cutRest l)) (cutNeg l)) else 0
def readE (l : List UInt8) : Int := if readOk l then errV (sgB (valD 0 (cutRest l)) (cutNeg l)) else 1
theorem isWr_all {d : List UInt8} (h : isWr d = true) : ∀ c ∈ d, isDig c = true := by
  cases d with
  | nil => simp [isWr] at h
  | cons c r => simp only [isWr, Bool.and_eq_true, List.all_eq_true] at h; exact h.2
theorem read_bad {l : List UInt8} (h : readOk l = false) : readV l = 0 ∧ readE l = 1 := by simp [readV, readE, h]
theorem read_good {l : List UInt8} (h : readOk l = true) : readV l = fitV (sgB (valD 0 (cutRest l)) (cutNeg l)) ∧ readE l = errV (sgB (valD 0 (cutRest l)) (cutNeg l)) := by simp [readV, readE, h]
theorem far_off {n : Int} (minus : Bool) (h0 : 0 ≤ n) (h : ¬ Siz n) : ¬ Rng (sgB n minus) := by
  unfold Siz at h; unfold Rng sgB; split <;> omega
end Go.Proofs.Ytffhbfdbahdhoab.Wd
