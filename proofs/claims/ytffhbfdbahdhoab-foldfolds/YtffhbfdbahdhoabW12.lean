import Derived.Test.YtffhbfdbahdhoabW11
import Derived.Test.YtffhbfdbahdhoabM8
namespace Go.Proofs.Ytffhbfdbahdhoab.Wd
open Go.RowKit Go.Shelf

theorem far_offN {n : Int} (minus : Bool) (h0 : 0 ≤ n) (h : ¬ Siz n) : ¬ Rng (sgN n minus) := far_off minus h0 h
theorem cut_len (l : List UInt8) : (cutRest l).length ≤ l.length := by
  unfold cutRest; split
  · simp
  · exact Nat.le_refl _
end Go.Proofs.Ytffhbfdbahdhoab.Wd
