/-
  No cell of these rows narrows 'for every input' (looked for: loops, veiled, ifaces, maps, wideKeys, modest, calm, conditions, laid).
  DERIVED. THE GIVEN ROWS OF THIS SEAT. 6 by the template 'for every input the law returns true; each argument reads behind the call as it read before'; 0 by the template 'total and deterministic' (their statements: YtlghmojjcfjibaaTotals.lean).
  GIVEN WITH THE SEED: the statements are not yours to turn. If you find one false, say at which input.
  Laid BY PROGRAM, IN A SANDBOX (cutbox-rows.mjs): the forced cells as the released guide's own fill.sh prints them over the translation 52f88bad5d12662a… (all of the seat's roots in one cut). By AI agents, Wed Nov 11 2026. No macro, syntax, notation, axiom, sorry.
-/
import Derived.Test.YtlghmojjcfjibaaChecked
import GoSem.Claim
import GoSem.ClaimJoined
import GoSem.ClaimMapViews
import Derived.JoinedTies
import Derived.KernelRfl
namespace Go.Proofs.Ytlghmojjcfjibaa
/- THE CELL 'sum', in the pinned program and in every row, IS THE sha256 OF THE DUMP (.gsa) THAT YtlghmojjcfjibaaProg.lean LOADS. Nothing in Lean hashes anything: it is a label: what it is worth is what the hold of that sum in a sandbox is worth. -/
noncomputable def Try.pinned : Pinned := { name := "ytlghmojjcfjibaa", sum := "52f88bad5d12662a8f57e0a3912c7395bcb25c8dbd6383c39a933e7f87fd9c70", checked := Try.checked }
namespace Rows
def none {H : Type} : Left H := { results := [], args := [] }

/-- 'heddlelaw15.PoolTwice': WHATEVER THE INPUT: true; the input reads as it did. -/
def poolTwiceSpec : ChangeSpec := { name := "poolTwice", fn := fun _ => fun
  | [d1, d2, d3] => { results := [.lit (.bool true)], args := [d1, d2, d3] }
  | _ => none }
def poolTwiceRow : OpenClaim := { program := "ytlghmojjcfjibaa", sum := "52f88bad5d12662a8f57e0a3912c7395bcb25c8dbd6383c39a933e7f87fd9c70", func := "heddle/heddlelaw15.PoolTwice", spec := "poolTwice", unfollowed := true, recurses := true, apart := false }
def PoolTwiceSaid : Prop := poolTwiceRow.holds Try.pinned (OpenSpec.ofChange poolTwiceSpec)

/-- ITS FALSE NEIGHBOUR: 'it returns false'. Refute it at one input. -/
def poolTwiceWrong : ChangeSpec := { name := "poolTwice", fn := fun _ => fun
  | [d1, d2, d3] => { results := [.lit (.bool false)], args := [d1, d2, d3] }
  | _ => none }
def PoolTwiceWrongFalsely : Prop := poolTwiceRow.holds Try.pinned (OpenSpec.ofChange poolTwiceWrong)

/-- 'heddlelaw15.PoolTurned': WHATEVER THE INPUT: true; the input reads as it did. -/
def poolTurnedSpec : ChangeSpec := { name := "poolTurned", fn := fun _ => fun
  | [d1, d2] => { results := [.lit (.bool true)], args := [d1, d2] }
  | _ => none }
def poolTurnedRow : OpenClaim := { program := "ytlghmojjcfjibaa", sum := "52f88bad5d12662a8f57e0a3912c7395bcb25c8dbd6383c39a933e7f87fd9c70", func := "heddle/heddlelaw15.PoolTurned", spec := "poolTurned", unfollowed := true, recurses := true, apart := false }
def PoolTurnedSaid : Prop := poolTurnedRow.holds Try.pinned (OpenSpec.ofChange poolTurnedSpec)

/-- ITS FALSE NEIGHBOUR: 'it returns false'. Refute it at one input. -/
def poolTurnedWrong : ChangeSpec := { name := "poolTurned", fn := fun _ => fun
  | [d1, d2] => { results := [.lit (.bool false)], args := [d1, d2] }
  | _ => none }
def PoolTurnedWrongFalsely : Prop := poolTurnedRow.holds Try.pinned (OpenSpec.ofChange poolTurnedWrong)

/-- 'heddlelaw15.PoolGreater': WHATEVER THE INPUT: true; the input reads as it did. -/
def poolGreaterSpec : ChangeSpec := { name := "poolGreater", fn := fun _ => fun
  | [d1, d2, d3, d4] => { results := [.lit (.bool true)], args := [d1, d2, d3, d4] }
  | _ => none }
def poolGreaterRow : OpenClaim := { program := "ytlghmojjcfjibaa", sum := "52f88bad5d12662a8f57e0a3912c7395bcb25c8dbd6383c39a933e7f87fd9c70", func := "heddle/heddlelaw15.PoolGreater", spec := "poolGreater", unfollowed := true, recurses := true, apart := false }
def PoolGreaterSaid : Prop := poolGreaterRow.holds Try.pinned (OpenSpec.ofChange poolGreaterSpec)

/-- ITS FALSE NEIGHBOUR: 'it returns false'. Refute it at one input. -/
def poolGreaterWrong : ChangeSpec := { name := "poolGreater", fn := fun _ => fun
  | [d1, d2, d3, d4] => { results := [.lit (.bool false)], args := [d1, d2, d3, d4] }
  | _ => none }
def PoolGreaterWrongFalsely : Prop := poolGreaterRow.holds Try.pinned (OpenSpec.ofChange poolGreaterWrong)

/-- 'heddlelaw15.PoolFresh': WHATEVER THE INPUT: true; the input reads as it did. -/
def poolFreshSpec : ChangeSpec := { name := "poolFresh", fn := fun _ => fun
  | [d1, d2] => { results := [.lit (.bool true)], args := [d1, d2] }
  | _ => none }
def poolFreshRow : OpenClaim := { program := "ytlghmojjcfjibaa", sum := "52f88bad5d12662a8f57e0a3912c7395bcb25c8dbd6383c39a933e7f87fd9c70", func := "heddle/heddlelaw15.PoolFresh", spec := "poolFresh", unfollowed := true, recurses := true, apart := false }
def PoolFreshSaid : Prop := poolFreshRow.holds Try.pinned (OpenSpec.ofChange poolFreshSpec)

/-- ITS FALSE NEIGHBOUR: 'it returns false'. Refute it at one input. -/
def poolFreshWrong : ChangeSpec := { name := "poolFresh", fn := fun _ => fun
  | [d1, d2] => { results := [.lit (.bool false)], args := [d1, d2] }
  | _ => none }
def PoolFreshWrongFalsely : Prop := poolFreshRow.holds Try.pinned (OpenSpec.ofChange poolFreshWrong)

/-- 'heddlelaw15.PoolAll': WHATEVER THE INPUT: true; the input reads as it did. -/
def poolAllSpec : ChangeSpec := { name := "poolAll", fn := fun _ => fun
  | [d1, d2] => { results := [.lit (.bool true)], args := [d1, d2] }
  | _ => none }
def poolAllRow : OpenClaim := { program := "ytlghmojjcfjibaa", sum := "52f88bad5d12662a8f57e0a3912c7395bcb25c8dbd6383c39a933e7f87fd9c70", func := "heddle/heddlelaw15.PoolAll", spec := "poolAll", unfollowed := true, recurses := true, apart := false }
def PoolAllSaid : Prop := poolAllRow.holds Try.pinned (OpenSpec.ofChange poolAllSpec)

/-- ITS FALSE NEIGHBOUR: 'it returns false'. Refute it at one input. -/
def poolAllWrong : ChangeSpec := { name := "poolAll", fn := fun _ => fun
  | [d1, d2] => { results := [.lit (.bool false)], args := [d1, d2] }
  | _ => none }
def PoolAllWrongFalsely : Prop := poolAllRow.holds Try.pinned (OpenSpec.ofChange poolAllWrong)

/-- 'heddlelaw15.PoolScript': WHATEVER THE INPUT: true; the input reads as it did. -/
def poolScriptSpec : ChangeSpec := { name := "poolScript", fn := fun _ => fun
  | [d1, d2] => { results := [.lit (.bool true)], args := [d1, d2] }
  | _ => none }
def poolScriptRow : OpenClaim := { program := "ytlghmojjcfjibaa", sum := "52f88bad5d12662a8f57e0a3912c7395bcb25c8dbd6383c39a933e7f87fd9c70", func := "heddle/heddlelaw15.PoolScript", spec := "poolScript", unfollowed := true, recurses := true, apart := false }
def PoolScriptSaid : Prop := poolScriptRow.holds Try.pinned (OpenSpec.ofChange poolScriptSpec)

/-- ITS FALSE NEIGHBOUR: 'it returns false'. Refute it at one input. -/
def poolScriptWrong : ChangeSpec := { name := "poolScript", fn := fun _ => fun
  | [d1, d2] => { results := [.lit (.bool false)], args := [d1, d2] }
  | _ => none }
def PoolScriptWrongFalsely : Prop := poolScriptRow.holds Try.pinned (OpenSpec.ofChange poolScriptWrong)

/- THE SECOND FORM. 'bulk': how many values and letters a reading holds, each counted each time it is reached (what is shared counts as often as it is met; a slice's spare places count too). A statement '..UptoSaid' is the law's where the arguments, and the package variables that the reading takes, are together of bulk at most 1048576: NARROWER than '..Said'. Prove '..Said' where nothing that the law and all that it calls make is longer than what came in: it says more and counts as full. Else prove '..UptoSaid'. A law counts once. -/
mutual
def uptoBulk {H : Type} : DataW H → Nat
  | .lit (.string bytes) => bytes.length + 1
  | .lit _ => 1
  | .nil => 1
  | .ptr d => uptoBulk d + 1
  | .slice elems spare => uptoBulkAll elems + uptoBulkAll spare + 1
  | .agg parts => uptoBulkAll parts + 1
  | .iface _ d => uptoBulk d + 1
  | .map entries => uptoBulkEntries entries + 1
  | .held _ => 1
def uptoBulkAll {H : Type} : List (DataW H) → Nat
  | [] => 0
  | d :: r => uptoBulk d + uptoBulkAll r
def uptoBulkEntries {H : Type} : List (Lit × DataW H) → Nat
  | [] => 0
  | x :: r => uptoBulkEntry x + uptoBulkEntries r
def uptoBulkEntry {H : Type} : Lit × DataW H → Nat
  | (.string bytes, d) => bytes.length + uptoBulk d + 1
  | (_, d) => uptoBulk d + 1
 end
def uptoSmall : (H : Type) → List (DataW H) → Bool := fun _ ds => decide (uptoBulkAll ds ≤ 1048576)
def OpenSpec.upto (s : _root_.Go.ChangeSpec) : _root_.Go.OpenSpec := { _root_.Go.OpenSpec.ofChange s with cond := some uptoSmall }

/-- 'heddlelaw15.PoolTwice', WHERE WHAT IT READS IS OF BULK AT MOST 1048576: true; the input reads as it did. -/
def poolTwiceUptoRow : OpenClaim := { program := "ytlghmojjcfjibaa", sum := "52f88bad5d12662a8f57e0a3912c7395bcb25c8dbd6383c39a933e7f87fd9c70", func := "heddle/heddlelaw15.PoolTwice", spec := "poolTwice", unfollowed := true, recurses := true, apart := false, narrowed := true }
def PoolTwiceUptoSaid : Prop := poolTwiceUptoRow.holds Try.pinned (OpenSpec.upto poolTwiceSpec)

/-- 'heddlelaw15.PoolTurned', WHERE WHAT IT READS IS OF BULK AT MOST 1048576: true; the input reads as it did. -/
def poolTurnedUptoRow : OpenClaim := { program := "ytlghmojjcfjibaa", sum := "52f88bad5d12662a8f57e0a3912c7395bcb25c8dbd6383c39a933e7f87fd9c70", func := "heddle/heddlelaw15.PoolTurned", spec := "poolTurned", unfollowed := true, recurses := true, apart := false, narrowed := true }
def PoolTurnedUptoSaid : Prop := poolTurnedUptoRow.holds Try.pinned (OpenSpec.upto poolTurnedSpec)

/-- 'heddlelaw15.PoolGreater', WHERE WHAT IT READS IS OF BULK AT MOST 1048576: true; the input reads as it did. -/
def poolGreaterUptoRow : OpenClaim := { program := "ytlghmojjcfjibaa", sum := "52f88bad5d12662a8f57e0a3912c7395bcb25c8dbd6383c39a933e7f87fd9c70", func := "heddle/heddlelaw15.PoolGreater", spec := "poolGreater", unfollowed := true, recurses := true, apart := false, narrowed := true }
def PoolGreaterUptoSaid : Prop := poolGreaterUptoRow.holds Try.pinned (OpenSpec.upto poolGreaterSpec)

/-- 'heddlelaw15.PoolFresh', WHERE WHAT IT READS IS OF BULK AT MOST 1048576: true; the input reads as it did. -/
def poolFreshUptoRow : OpenClaim := { program := "ytlghmojjcfjibaa", sum := "52f88bad5d12662a8f57e0a3912c7395bcb25c8dbd6383c39a933e7f87fd9c70", func := "heddle/heddlelaw15.PoolFresh", spec := "poolFresh", unfollowed := true, recurses := true, apart := false, narrowed := true }
def PoolFreshUptoSaid : Prop := poolFreshUptoRow.holds Try.pinned (OpenSpec.upto poolFreshSpec)

/-- 'heddlelaw15.PoolAll', WHERE WHAT IT READS IS OF BULK AT MOST 1048576: true; the input reads as it did. -/
def poolAllUptoRow : OpenClaim := { program := "ytlghmojjcfjibaa", sum := "52f88bad5d12662a8f57e0a3912c7395bcb25c8dbd6383c39a933e7f87fd9c70", func := "heddle/heddlelaw15.PoolAll", spec := "poolAll", unfollowed := true, recurses := true, apart := false, narrowed := true }
def PoolAllUptoSaid : Prop := poolAllUptoRow.holds Try.pinned (OpenSpec.upto poolAllSpec)

/-- 'heddlelaw15.PoolScript', WHERE WHAT IT READS IS OF BULK AT MOST 1048576: true; the input reads as it did. -/
def poolScriptUptoRow : OpenClaim := { program := "ytlghmojjcfjibaa", sum := "52f88bad5d12662a8f57e0a3912c7395bcb25c8dbd6383c39a933e7f87fd9c70", func := "heddle/heddlelaw15.PoolScript", spec := "poolScript", unfollowed := true, recurses := true, apart := false, narrowed := true }
def PoolScriptUptoSaid : Prop := poolScriptUptoRow.holds Try.pinned (OpenSpec.upto poolScriptSpec)

end Rows
end Go.Proofs.Ytlghmojjcfjibaa
