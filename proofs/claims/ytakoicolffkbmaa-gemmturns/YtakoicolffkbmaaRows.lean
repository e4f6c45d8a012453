/-
  No cell of these rows narrows 'for every input' (looked for: loops, veiled, ifaces, maps, wideKeys, modest, calm, conditions, laid).
  DERIVED. THE GIVEN ROWS OF THIS SEAT. 5 by the template 'for every input the law returns true; each argument reads behind the call as it read before'; 0 by the template 'total and deterministic' (their statements: YtakoicolffkbmaaTotals.lean).
  GIVEN WITH THE SEED: the statements are not yours to turn. If you find one false, say at which input.
  Laid BY PROGRAM, IN A SANDBOX (cutbox-rows.mjs): the forced cells as the released guide's own fill.sh prints them over the translation 83ea9afe017fa697… (all of the seat's roots in one cut). By AI agents, Wed Nov 11 2026. No macro, syntax, notation, axiom, sorry.
-/
import Derived.Test.YtakoicolffkbmaaChecked
import GoSem.Claim
import GoSem.ClaimJoined
import GoSem.ClaimMapViews
import Derived.JoinedTies
import Derived.KernelRfl
namespace Go.Proofs.Ytakoicolffkbmaa
/- THE CELL 'sum', in the pinned program and in every row, IS THE sha256 OF THE DUMP (.gsa) THAT YtakoicolffkbmaaProg.lean LOADS. Nothing in Lean hashes anything: it is a label: what it is worth is what the hold of that sum in a sandbox is worth. -/
noncomputable def Try.pinned : Pinned := { name := "ytakoicolffkbmaa", sum := "83ea9afe017fa697b7a2ea0cc699c962791d2e5ffc0e6ddd02e2a19fe398d9d5", checked := Try.checked }
namespace Rows
def none {H : Type} : Left H := { results := [], args := [] }

/-- 'heddlelaw11.GemmBig': WHATEVER THE INPUT: true; the input reads as it did. -/
def gemmBigSpec : ChangeSpec := { name := "gemmBig", fn := fun _ => fun
  | [d] => { results := [.lit (.bool true)], args := [d] }
  | _ => none }
def gemmBigRow : OpenClaim := { program := "ytakoicolffkbmaa", sum := "83ea9afe017fa697b7a2ea0cc699c962791d2e5ffc0e6ddd02e2a19fe398d9d5", func := "heddle/heddlelaw11.GemmBig", spec := "gemmBig", unfollowed := true, recurses := true, apart := false }
def GemmBigSaid : Prop := gemmBigRow.holds Try.pinned (OpenSpec.ofChange gemmBigSpec)

/-- ITS FALSE NEIGHBOUR: 'it returns false'. Refute it at one input. -/
def gemmBigWrong : ChangeSpec := { name := "gemmBig", fn := fun _ => fun
  | [d] => { results := [.lit (.bool false)], args := [d] }
  | _ => none }
def GemmBigWrongFalsely : Prop := gemmBigRow.holds Try.pinned (OpenSpec.ofChange gemmBigWrong)

/-- 'heddlelaw11.GemmWays': WHATEVER THE INPUT: true; the input reads as it did. -/
def gemmWaysSpec : ChangeSpec := { name := "gemmWays", fn := fun _ => fun
  | [d1, d2, d3, d4, d5] => { results := [.lit (.bool true)], args := [d1, d2, d3, d4, d5] }
  | _ => none }
def gemmWaysRow : OpenClaim := { program := "ytakoicolffkbmaa", sum := "83ea9afe017fa697b7a2ea0cc699c962791d2e5ffc0e6ddd02e2a19fe398d9d5", func := "heddle/heddlelaw11.GemmWays", spec := "gemmWays", unfollowed := true, recurses := true, apart := false }
def GemmWaysSaid : Prop := gemmWaysRow.holds Try.pinned (OpenSpec.ofChange gemmWaysSpec)

/-- ITS FALSE NEIGHBOUR: 'it returns false'. Refute it at one input. -/
def gemmWaysWrong : ChangeSpec := { name := "gemmWays", fn := fun _ => fun
  | [d1, d2, d3, d4, d5] => { results := [.lit (.bool false)], args := [d1, d2, d3, d4, d5] }
  | _ => none }
def GemmWaysWrongFalsely : Prop := gemmWaysRow.holds Try.pinned (OpenSpec.ofChange gemmWaysWrong)

/-- 'heddlelaw11.GemmTurns': WHATEVER THE INPUT: true; the input reads as it did. -/
def gemmTurnsSpec : ChangeSpec := { name := "gemmTurns", fn := fun _ => fun
  | [d1, d2, d3] => { results := [.lit (.bool true)], args := [d1, d2, d3] }
  | _ => none }
def gemmTurnsRow : OpenClaim := { program := "ytakoicolffkbmaa", sum := "83ea9afe017fa697b7a2ea0cc699c962791d2e5ffc0e6ddd02e2a19fe398d9d5", func := "heddle/heddlelaw11.GemmTurns", spec := "gemmTurns", unfollowed := true, recurses := true, apart := false }
def GemmTurnsSaid : Prop := gemmTurnsRow.holds Try.pinned (OpenSpec.ofChange gemmTurnsSpec)

/-- ITS FALSE NEIGHBOUR: 'it returns false'. Refute it at one input. -/
def gemmTurnsWrong : ChangeSpec := { name := "gemmTurns", fn := fun _ => fun
  | [d1, d2, d3] => { results := [.lit (.bool false)], args := [d1, d2, d3] }
  | _ => none }
def GemmTurnsWrongFalsely : Prop := gemmTurnsRow.holds Try.pinned (OpenSpec.ofChange gemmTurnsWrong)

/-- 'heddlelaw11.GemmAll': WHATEVER THE INPUT: true; the input reads as it did. -/
def gemmAllSpec : ChangeSpec := { name := "gemmAll", fn := fun _ => fun
  | [d] => { results := [.lit (.bool true)], args := [d] }
  | _ => none }
def gemmAllRow : OpenClaim := { program := "ytakoicolffkbmaa", sum := "83ea9afe017fa697b7a2ea0cc699c962791d2e5ffc0e6ddd02e2a19fe398d9d5", func := "heddle/heddlelaw11.GemmAll", spec := "gemmAll", unfollowed := true, recurses := true, apart := false }
def GemmAllSaid : Prop := gemmAllRow.holds Try.pinned (OpenSpec.ofChange gemmAllSpec)

/-- ITS FALSE NEIGHBOUR: 'it returns false'. Refute it at one input. -/
def gemmAllWrong : ChangeSpec := { name := "gemmAll", fn := fun _ => fun
  | [d] => { results := [.lit (.bool false)], args := [d] }
  | _ => none }
def GemmAllWrongFalsely : Prop := gemmAllRow.holds Try.pinned (OpenSpec.ofChange gemmAllWrong)

/-- 'heddlelaw11.GemmFresh': WHATEVER THE INPUT: true; the input reads as it did. -/
def gemmFreshSpec : ChangeSpec := { name := "gemmFresh", fn := fun _ => fun
  | [d] => { results := [.lit (.bool true)], args := [d] }
  | _ => none }
def gemmFreshRow : OpenClaim := { program := "ytakoicolffkbmaa", sum := "83ea9afe017fa697b7a2ea0cc699c962791d2e5ffc0e6ddd02e2a19fe398d9d5", func := "heddle/heddlelaw11.GemmFresh", spec := "gemmFresh", unfollowed := true, recurses := true, apart := false }
def GemmFreshSaid : Prop := gemmFreshRow.holds Try.pinned (OpenSpec.ofChange gemmFreshSpec)

/-- ITS FALSE NEIGHBOUR: 'it returns false'. Refute it at one input. -/
def gemmFreshWrong : ChangeSpec := { name := "gemmFresh", fn := fun _ => fun
  | [d] => { results := [.lit (.bool false)], args := [d] }
  | _ => none }
def GemmFreshWrongFalsely : Prop := gemmFreshRow.holds Try.pinned (OpenSpec.ofChange gemmFreshWrong)

/- THE SECOND FORM. 'bulk': how many values and letters a reading holds, each counted each time it is reached (what is shared counts as often as it is met; a slice's spare places count too). A statement '..UptoSaid' is the law's where the arguments, and the package variables that the reading takes, are together of bulk at most 1048576: NARROWER than '..Said'. Prove '..Said' where nothing that the law and all that it calls make is longer than what came in: it says more and counts as full. Else prove '..UptoSaid'. A law counts once. -/
mutual
def uptoBulk {H : Type} : DataW H → Nat
  | .lit (.string bytes) => bytes.length + 1
  | .lit _ => 1
  | .nil => 1
  | .ptr d => uptoBulk d + 1
  | .slice elems spare => uptoBulkAll elems + uptoBulkAll spare + 1
  | .agg parts => uptoBulkAll parts + 1
  | .iface _ d => uptoBulk d + 1
  | .map entries => uptoBulkEntries entries + 1
  | .held _ => 1
def uptoBulkAll {H : Type} : List (DataW H) → Nat
  | [] => 0
  | d :: r => uptoBulk d + uptoBulkAll r
def uptoBulkEntries {H : Type} : List (Lit × DataW H) → Nat
  | [] => 0
  | x :: r => uptoBulkEntry x + uptoBulkEntries r
def uptoBulkEntry {H : Type} : Lit × DataW H → Nat
  | (.string bytes, d) => bytes.length + uptoBulk d + 1
  | (_, d) => uptoBulk d + 1
 end
def uptoSmall : (H : Type) → List (DataW H) → Bool := fun _ ds => decide (uptoBulkAll ds ≤ 1048576)
def OpenSpec.upto (s : _root_.Go.ChangeSpec) : _root_.Go.OpenSpec := { _root_.Go.OpenSpec.ofChange s with cond := some uptoSmall }

/-- 'heddlelaw11.GemmBig', WHERE WHAT IT READS IS OF BULK AT MOST 1048576: true; the input reads as it did. -/
def gemmBigUptoRow : OpenClaim := { program := "ytakoicolffkbmaa", sum := "83ea9afe017fa697b7a2ea0cc699c962791d2e5ffc0e6ddd02e2a19fe398d9d5", func := "heddle/heddlelaw11.GemmBig", spec := "gemmBig", unfollowed := true, recurses := true, apart := false, narrowed := true }
def GemmBigUptoSaid : Prop := gemmBigUptoRow.holds Try.pinned (OpenSpec.upto gemmBigSpec)

/-- 'heddlelaw11.GemmWays', WHERE WHAT IT READS IS OF BULK AT MOST 1048576: true; the input reads as it did. -/
def gemmWaysUptoRow : OpenClaim := { program := "ytakoicolffkbmaa", sum := "83ea9afe017fa697b7a2ea0cc699c962791d2e5ffc0e6ddd02e2a19fe398d9d5", func := "heddle/heddlelaw11.GemmWays", spec := "gemmWays", unfollowed := true, recurses := true, apart := false, narrowed := true }
def GemmWaysUptoSaid : Prop := gemmWaysUptoRow.holds Try.pinned (OpenSpec.upto gemmWaysSpec)

/-- 'heddlelaw11.GemmTurns', WHERE WHAT IT READS IS OF BULK AT MOST 1048576: true; the input reads as it did. -/
def gemmTurnsUptoRow : OpenClaim := { program := "ytakoicolffkbmaa", sum := "83ea9afe017fa697b7a2ea0cc699c962791d2e5ffc0e6ddd02e2a19fe398d9d5", func := "heddle/heddlelaw11.GemmTurns", spec := "gemmTurns", unfollowed := true, recurses := true, apart := false, narrowed := true }
def GemmTurnsUptoSaid : Prop := gemmTurnsUptoRow.holds Try.pinned (OpenSpec.upto gemmTurnsSpec)

/-- 'heddlelaw11.GemmAll', WHERE WHAT IT READS IS OF BULK AT MOST 1048576: true; the input reads as it did. -/
def gemmAllUptoRow : OpenClaim := { program := "ytakoicolffkbmaa", sum := "83ea9afe017fa697b7a2ea0cc699c962791d2e5ffc0e6ddd02e2a19fe398d9d5", func := "heddle/heddlelaw11.GemmAll", spec := "gemmAll", unfollowed := true, recurses := true, apart := false, narrowed := true }
def GemmAllUptoSaid : Prop := gemmAllUptoRow.holds Try.pinned (OpenSpec.upto gemmAllSpec)

/-- 'heddlelaw11.GemmFresh', WHERE WHAT IT READS IS OF BULK AT MOST 1048576: true; the input reads as it did. -/
def gemmFreshUptoRow : OpenClaim := { program := "ytakoicolffkbmaa", sum := "83ea9afe017fa697b7a2ea0cc699c962791d2e5ffc0e6ddd02e2a19fe398d9d5", func := "heddle/heddlelaw11.GemmFresh", spec := "gemmFresh", unfollowed := true, recurses := true, apart := false, narrowed := true }
def GemmFreshUptoSaid : Prop := gemmFreshUptoRow.holds Try.pinned (OpenSpec.upto gemmFreshSpec)

end Rows
end Go.Proofs.Ytakoicolffkbmaa
