/-
  No cell of these rows narrows 'for every input' (looked for: loops, veiled, ifaces, maps, wideKeys, modest, calm, conditions, laid).
  DERIVED. THE GIVEN ROWS OF THIS SEAT. 6 by the template 'for every input the law returns true; each argument reads behind the call as it read before'; 0 by the template 'total and deterministic' (their statements: YtncmcldiodpnpaaTotals.lean).
  GIVEN WITH THE SEED: the statements are not yours to turn. If you find one false, say at which input.
  Laid BY PROGRAM, IN A SANDBOX (cutbox-rows.mjs): the forced cells as the released guide's own fill.sh prints them over the translation 6568d6e62248d8c2… (all of the seat's roots in one cut). By AI agents, Wed Nov 11 2026. No macro, syntax, notation, axiom, sorry.
-/
import Derived.Test.YtncmcldiodpnpaaChecked
import GoSem.Claim
import GoSem.ClaimJoined
import GoSem.ClaimMapViews
import Derived.JoinedTies
import Derived.KernelRfl
namespace Go.Proofs.Ytncmcldiodpnpaa
/- THE CELL 'sum', in the pinned program and in every row, IS THE sha256 OF THE DUMP (.gsa) THAT YtncmcldiodpnpaaProg.lean LOADS. Nothing in Lean hashes anything: it is a label: what it is worth is what the hold of that sum in a sandbox is worth. -/
noncomputable def Try.pinned : Pinned := { name := "ytncmcldiodpnpaa", sum := "6568d6e62248d8c2b36e40ecb2486edbd4fb06e5668e94abe3275e6393f72f17", checked := Try.checked }
namespace Rows
def none {H : Type} : Left H := { results := [], args := [] }

/-- 'heddlelaw12.CubeTurned': WHATEVER THE INPUT: true; the input reads as it did. -/
def cubeTurnedSpec : ChangeSpec := { name := "cubeTurned", fn := fun _ => fun
  | [d] => { results := [.lit (.bool true)], args := [d] }
  | _ => none }
def cubeTurnedRow : OpenClaim := { program := "ytncmcldiodpnpaa", sum := "6568d6e62248d8c2b36e40ecb2486edbd4fb06e5668e94abe3275e6393f72f17", func := "heddle/heddlelaw12.CubeTurned", spec := "cubeTurned", unfollowed := true, recurses := true, apart := false }
def CubeTurnedSaid : Prop := cubeTurnedRow.holds Try.pinned (OpenSpec.ofChange cubeTurnedSpec)

/-- ITS FALSE NEIGHBOUR: 'it returns false'. Refute it at one input. -/
def cubeTurnedWrong : ChangeSpec := { name := "cubeTurned", fn := fun _ => fun
  | [d] => { results := [.lit (.bool false)], args := [d] }
  | _ => none }
def CubeTurnedWrongFalsely : Prop := cubeTurnedRow.holds Try.pinned (OpenSpec.ofChange cubeTurnedWrong)

/-- 'heddlelaw12.CubePacks': WHATEVER THE INPUT: true; the input reads as it did. -/
def cubePacksSpec : ChangeSpec := { name := "cubePacks", fn := fun _ => fun
  | [d1, d2] => { results := [.lit (.bool true)], args := [d1, d2] }
  | _ => none }
def cubePacksRow : OpenClaim := { program := "ytncmcldiodpnpaa", sum := "6568d6e62248d8c2b36e40ecb2486edbd4fb06e5668e94abe3275e6393f72f17", func := "heddle/heddlelaw12.CubePacks", spec := "cubePacks", unfollowed := true, recurses := true, apart := false }
def CubePacksSaid : Prop := cubePacksRow.holds Try.pinned (OpenSpec.ofChange cubePacksSpec)

/-- ITS FALSE NEIGHBOUR: 'it returns false'. Refute it at one input. -/
def cubePacksWrong : ChangeSpec := { name := "cubePacks", fn := fun _ => fun
  | [d1, d2] => { results := [.lit (.bool false)], args := [d1, d2] }
  | _ => none }
def CubePacksWrongFalsely : Prop := cubePacksRow.holds Try.pinned (OpenSpec.ofChange cubePacksWrong)

/-- 'heddlelaw12.CubeBack': WHATEVER THE INPUT: true; the input reads as it did. -/
def cubeBackSpec : ChangeSpec := { name := "cubeBack", fn := fun _ => fun
  | [d1, d2] => { results := [.lit (.bool true)], args := [d1, d2] }
  | _ => none }
def cubeBackRow : OpenClaim := { program := "ytncmcldiodpnpaa", sum := "6568d6e62248d8c2b36e40ecb2486edbd4fb06e5668e94abe3275e6393f72f17", func := "heddle/heddlelaw12.CubeBack", spec := "cubeBack", unfollowed := true, recurses := true, apart := false }
def CubeBackSaid : Prop := cubeBackRow.holds Try.pinned (OpenSpec.ofChange cubeBackSpec)

/-- ITS FALSE NEIGHBOUR: 'it returns false'. Refute it at one input. -/
def cubeBackWrong : ChangeSpec := { name := "cubeBack", fn := fun _ => fun
  | [d1, d2] => { results := [.lit (.bool false)], args := [d1, d2] }
  | _ => none }
def CubeBackWrongFalsely : Prop := cubeBackRow.holds Try.pinned (OpenSpec.ofChange cubeBackWrong)

/-- 'heddlelaw12.CubeTurns': WHATEVER THE INPUT: true; the input reads as it did. -/
def cubeTurnsSpec : ChangeSpec := { name := "cubeTurns", fn := fun _ => fun
  | [d] => { results := [.lit (.bool true)], args := [d] }
  | _ => none }
def cubeTurnsRow : OpenClaim := { program := "ytncmcldiodpnpaa", sum := "6568d6e62248d8c2b36e40ecb2486edbd4fb06e5668e94abe3275e6393f72f17", func := "heddle/heddlelaw12.CubeTurns", spec := "cubeTurns", unfollowed := true, recurses := true, apart := false }
def CubeTurnsSaid : Prop := cubeTurnsRow.holds Try.pinned (OpenSpec.ofChange cubeTurnsSpec)

/-- ITS FALSE NEIGHBOUR: 'it returns false'. Refute it at one input. -/
def cubeTurnsWrong : ChangeSpec := { name := "cubeTurns", fn := fun _ => fun
  | [d] => { results := [.lit (.bool false)], args := [d] }
  | _ => none }
def CubeTurnsWrongFalsely : Prop := cubeTurnsRow.holds Try.pinned (OpenSpec.ofChange cubeTurnsWrong)

/-- 'heddlelaw12.CubeAsks': WHATEVER THE INPUT: true; the input reads as it did. -/
def cubeAsksSpec : ChangeSpec := { name := "cubeAsks", fn := fun _ => fun
  | [d1, d2, d3] => { results := [.lit (.bool true)], args := [d1, d2, d3] }
  | _ => none }
def cubeAsksRow : OpenClaim := { program := "ytncmcldiodpnpaa", sum := "6568d6e62248d8c2b36e40ecb2486edbd4fb06e5668e94abe3275e6393f72f17", func := "heddle/heddlelaw12.CubeAsks", spec := "cubeAsks", unfollowed := true, recurses := true, apart := false }
def CubeAsksSaid : Prop := cubeAsksRow.holds Try.pinned (OpenSpec.ofChange cubeAsksSpec)

/-- ITS FALSE NEIGHBOUR: 'it returns false'. Refute it at one input. -/
def cubeAsksWrong : ChangeSpec := { name := "cubeAsks", fn := fun _ => fun
  | [d1, d2, d3] => { results := [.lit (.bool false)], args := [d1, d2, d3] }
  | _ => none }
def CubeAsksWrongFalsely : Prop := cubeAsksRow.holds Try.pinned (OpenSpec.ofChange cubeAsksWrong)

/-- 'heddlelaw12.CubeScript': WHATEVER THE INPUT: true; the input reads as it did. -/
def cubeScriptSpec : ChangeSpec := { name := "cubeScript", fn := fun _ => fun
  | [d1, d2] => { results := [.lit (.bool true)], args := [d1, d2] }
  | _ => none }
def cubeScriptRow : OpenClaim := { program := "ytncmcldiodpnpaa", sum := "6568d6e62248d8c2b36e40ecb2486edbd4fb06e5668e94abe3275e6393f72f17", func := "heddle/heddlelaw12.CubeScript", spec := "cubeScript", unfollowed := true, recurses := true, apart := false }
def CubeScriptSaid : Prop := cubeScriptRow.holds Try.pinned (OpenSpec.ofChange cubeScriptSpec)

/-- ITS FALSE NEIGHBOUR: 'it returns false'. Refute it at one input. -/
def cubeScriptWrong : ChangeSpec := { name := "cubeScript", fn := fun _ => fun
  | [d1, d2] => { results := [.lit (.bool false)], args := [d1, d2] }
  | _ => none }
def CubeScriptWrongFalsely : Prop := cubeScriptRow.holds Try.pinned (OpenSpec.ofChange cubeScriptWrong)

/- THE SECOND FORM. 'bulk': how many values and letters a reading holds, each counted each time it is reached (what is shared counts as often as it is met; a slice's spare places count too). A statement '..UptoSaid' is the law's where the arguments, and the package variables that the reading takes, are together of bulk at most 1048576: NARROWER than '..Said'. Prove '..Said' where nothing that the law and all that it calls make is longer than what came in: it says more and counts as full. Else prove '..UptoSaid'. A law counts once. -/
mutual
def uptoBulk {H : Type} : DataW H → Nat
  | .lit (.string bytes) => bytes.length + 1
  | .lit _ => 1
  | .nil => 1
  | .ptr d => uptoBulk d + 1
  | .slice elems spare => uptoBulkAll elems + uptoBulkAll spare + 1
  | .agg parts => uptoBulkAll parts + 1
  | .iface _ d => uptoBulk d + 1
  | .map entries => uptoBulkEntries entries + 1
  | .held _ => 1
def uptoBulkAll {H : Type} : List (DataW H) → Nat
  | [] => 0
  | d :: r => uptoBulk d + uptoBulkAll r
def uptoBulkEntries {H : Type} : List (Lit × DataW H) → Nat
  | [] => 0
  | x :: r => uptoBulkEntry x + uptoBulkEntries r
def uptoBulkEntry {H : Type} : Lit × DataW H → Nat
  | (.string bytes, d) => bytes.length + uptoBulk d + 1
  | (_, d) => uptoBulk d + 1
 end
def uptoSmall : (H : Type) → List (DataW H) → Bool := fun _ ds => decide (uptoBulkAll ds ≤ 1048576)
def OpenSpec.upto (s : _root_.Go.ChangeSpec) : _root_.Go.OpenSpec := { _root_.Go.OpenSpec.ofChange s with cond := some uptoSmall }

/-- 'heddlelaw12.CubeTurned', WHERE WHAT IT READS IS OF BULK AT MOST 1048576: true; the input reads as it did. -/
def cubeTurnedUptoRow : OpenClaim := { program := "ytncmcldiodpnpaa", sum := "6568d6e62248d8c2b36e40ecb2486edbd4fb06e5668e94abe3275e6393f72f17", func := "heddle/heddlelaw12.CubeTurned", spec := "cubeTurned", unfollowed := true, recurses := true, apart := false, narrowed := true }
def CubeTurnedUptoSaid : Prop := cubeTurnedUptoRow.holds Try.pinned (OpenSpec.upto cubeTurnedSpec)

/-- 'heddlelaw12.CubePacks', WHERE WHAT IT READS IS OF BULK AT MOST 1048576: true; the input reads as it did. -/
def cubePacksUptoRow : OpenClaim := { program := "ytncmcldiodpnpaa", sum := "6568d6e62248d8c2b36e40ecb2486edbd4fb06e5668e94abe3275e6393f72f17", func := "heddle/heddlelaw12.CubePacks", spec := "cubePacks", unfollowed := true, recurses := true, apart := false, narrowed := true }
def CubePacksUptoSaid : Prop := cubePacksUptoRow.holds Try.pinned (OpenSpec.upto cubePacksSpec)

/-- 'heddlelaw12.CubeBack', WHERE WHAT IT READS IS OF BULK AT MOST 1048576: true; the input reads as it did. -/
def cubeBackUptoRow : OpenClaim := { program := "ytncmcldiodpnpaa", sum := "6568d6e62248d8c2b36e40ecb2486edbd4fb06e5668e94abe3275e6393f72f17", func := "heddle/heddlelaw12.CubeBack", spec := "cubeBack", unfollowed := true, recurses := true, apart := false, narrowed := true }
def CubeBackUptoSaid : Prop := cubeBackUptoRow.holds Try.pinned (OpenSpec.upto cubeBackSpec)

/-- 'heddlelaw12.CubeTurns', WHERE WHAT IT READS IS OF BULK AT MOST 1048576: true; the input reads as it did. -/
def cubeTurnsUptoRow : OpenClaim := { program := "ytncmcldiodpnpaa", sum := "6568d6e62248d8c2b36e40ecb2486edbd4fb06e5668e94abe3275e6393f72f17", func := "heddle/heddlelaw12.CubeTurns", spec := "cubeTurns", unfollowed := true, recurses := true, apart := false, narrowed := true }
def CubeTurnsUptoSaid : Prop := cubeTurnsUptoRow.holds Try.pinned (OpenSpec.upto cubeTurnsSpec)

/-- 'heddlelaw12.CubeAsks', WHERE WHAT IT READS IS OF BULK AT MOST 1048576: true; the input reads as it did. -/
def cubeAsksUptoRow : OpenClaim := { program := "ytncmcldiodpnpaa", sum := "6568d6e62248d8c2b36e40ecb2486edbd4fb06e5668e94abe3275e6393f72f17", func := "heddle/heddlelaw12.CubeAsks", spec := "cubeAsks", unfollowed := true, recurses := true, apart := false, narrowed := true }
def CubeAsksUptoSaid : Prop := cubeAsksUptoRow.holds Try.pinned (OpenSpec.upto cubeAsksSpec)

/-- 'heddlelaw12.CubeScript', WHERE WHAT IT READS IS OF BULK AT MOST 1048576: true; the input reads as it did. -/
def cubeScriptUptoRow : OpenClaim := { program := "ytncmcldiodpnpaa", sum := "6568d6e62248d8c2b36e40ecb2486edbd4fb06e5668e94abe3275e6393f72f17", func := "heddle/heddlelaw12.CubeScript", spec := "cubeScript", unfollowed := true, recurses := true, apart := false, narrowed := true }
def CubeScriptUptoSaid : Prop := cubeScriptUptoRow.holds Try.pinned (OpenSpec.upto cubeScriptSpec)

end Rows
end Go.Proofs.Ytncmcldiodpnpaa
