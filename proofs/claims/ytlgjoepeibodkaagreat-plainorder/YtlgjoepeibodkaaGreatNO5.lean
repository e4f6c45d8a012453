/- bound.Net of every network. -/
import Derived.Test.YtlgjoepeibodkaaGreatNO4
namespace Go.Proofs.YtlgjoepeibodkaaGreat.Nn
open Go.RowKit

/-- Where the layer i of the network stands, and its fan. -/
def fanN (N : Nt) (i : Nat) : Nat := (fan (N.lf i) (sp N i).h (sp N i).v (sp N i).c).toNat
def cN (N : Nt) (i : Nat) : Nat := (sp N i).c.toNat
/-- The list of lists, k of them there. -/
def lsf (N : Nt) (gs : Nat → Nat) (k i : Nat) : Value := if i < k then .slice (some ⟨gs i, 0, none⟩) (cN N (i + 1)) (cN N (i + 1)) else .slice none 0 0
end Go.Proofs.YtlgjoepeibodkaaGreat.Nn
