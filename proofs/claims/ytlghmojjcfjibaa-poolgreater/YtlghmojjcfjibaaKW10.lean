/- PACKAGE cube: At. -/
import Derived.Test.YtlghmojjcfjibaaKW9
namespace Go.Proofs.Ytlghmojjcfjibaa
open Go.RowKit Go.Shelf

/-- What At tells. -/
def atE (h v c y x : Int) (m N : Nat) : Int := if cuk h v c m N = 0 then Sg.ixE h v c y x 0 else cuk h v c m N
end Go.Proofs.Ytlghmojjcfjibaa
