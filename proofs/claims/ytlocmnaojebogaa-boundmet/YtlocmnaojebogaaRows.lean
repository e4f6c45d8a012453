/-
  No cell of these rows narrows 'for every input' (looked for: loops, veiled, ifaces, maps, wideKeys, modest, calm, conditions, laid).
  DERIVED. THE GIVEN ROWS OF THIS SEAT. 5 by the template 'for every input the law returns true; each argument reads behind the call as it read before'; 0 by the template 'total and deterministic' (their statements: YtlocmnaojebogaaTotals.lean).
  GIVEN WITH THE SEED: the statements are not yours to turn. If you find one false, say at which input.
  Laid BY PROGRAM, IN A SANDBOX (cutbox-rows.mjs): the forced cells as the released guide's own fill.sh prints them over the translation e776dfbc3675340f… (all of the seat's roots in one cut). By AI agents, Wed Nov 11 2026. No macro, syntax, notation, axiom, sorry.
-/
import Derived.Test.YtlocmnaojebogaaChecked
import GoSem.Claim
import GoSem.ClaimJoined
import GoSem.ClaimMapViews
import Derived.JoinedTies
import Derived.KernelRfl
namespace Go.Proofs.Ytlocmnaojebogaa
/- THE CELL 'sum', in the pinned program and in every row, IS THE sha256 OF THE DUMP (.gsa) THAT YtlocmnaojebogaaProg.lean LOADS. Nothing in Lean hashes anything: it is a label: what it is worth is what the hold of that sum in a sandbox is worth. -/
noncomputable def Try.pinned : Pinned := { name := "ytlocmnaojebogaa", sum := "e776dfbc3675340fecf8acadab07fedac05de85ee8c8a62bbfab9cf9cbdf9684", checked := Try.checked }
namespace Rows
def none {H : Type} : Left H := { results := [], args := [] }

/-- 'heddlelaw17.BoundRows': WHATEVER THE INPUT: true; the input reads as it did. -/
def boundRowsSpec : ChangeSpec := { name := "boundRows", fn := fun _ => fun
  | [d1, d2, d3] => { results := [.lit (.bool true)], args := [d1, d2, d3] }
  | _ => none }
def boundRowsRow : OpenClaim := { program := "ytlocmnaojebogaa", sum := "e776dfbc3675340fecf8acadab07fedac05de85ee8c8a62bbfab9cf9cbdf9684", func := "heddle/heddlelaw17.BoundRows", spec := "boundRows", unfollowed := true, recurses := true, apart := false }
def BoundRowsSaid : Prop := boundRowsRow.holds Try.pinned (OpenSpec.ofChange boundRowsSpec)

/-- ITS FALSE NEIGHBOUR: 'it returns false'. Refute it at one input. -/
def boundRowsWrong : ChangeSpec := { name := "boundRows", fn := fun _ => fun
  | [d1, d2, d3] => { results := [.lit (.bool false)], args := [d1, d2, d3] }
  | _ => none }
def BoundRowsWrongFalsely : Prop := boundRowsRow.holds Try.pinned (OpenSpec.ofChange boundRowsWrong)

/-- 'heddlelaw17.BoundMet': WHATEVER THE INPUT: true; the input reads as it did. -/
def boundMetSpec : ChangeSpec := { name := "boundMet", fn := fun _ => fun
  | [d1, d2, d3] => { results := [.lit (.bool true)], args := [d1, d2, d3] }
  | _ => none }
def boundMetRow : OpenClaim := { program := "ytlocmnaojebogaa", sum := "e776dfbc3675340fecf8acadab07fedac05de85ee8c8a62bbfab9cf9cbdf9684", func := "heddle/heddlelaw17.BoundMet", spec := "boundMet", inPlace := ["math/bits.Add64"], unfollowed := true, recurses := true, apart := false }
def BoundMetSaid : Prop := boundMetRow.holds Try.pinned (OpenSpec.ofChange boundMetSpec)

/-- ITS FALSE NEIGHBOUR: 'it returns false'. Refute it at one input. -/
def boundMetWrong : ChangeSpec := { name := "boundMet", fn := fun _ => fun
  | [d1, d2, d3] => { results := [.lit (.bool false)], args := [d1, d2, d3] }
  | _ => none }
def BoundMetWrongFalsely : Prop := boundMetRow.holds Try.pinned (OpenSpec.ofChange boundMetWrong)

/-- 'heddlelaw17.BoundHolds': WHATEVER THE INPUT: true; the input reads as it did. -/
def boundHoldsSpec : ChangeSpec := { name := "boundHolds", fn := fun _ => fun
  | [d1, d2] => { results := [.lit (.bool true)], args := [d1, d2] }
  | _ => none }
def boundHoldsRow : OpenClaim := { program := "ytlocmnaojebogaa", sum := "e776dfbc3675340fecf8acadab07fedac05de85ee8c8a62bbfab9cf9cbdf9684", func := "heddle/heddlelaw17.BoundHolds", spec := "boundHolds", inPlace := ["math/bits.Add64"], unfollowed := true, recurses := true, apart := false }
def BoundHoldsSaid : Prop := boundHoldsRow.holds Try.pinned (OpenSpec.ofChange boundHoldsSpec)

/-- ITS FALSE NEIGHBOUR: 'it returns false'. Refute it at one input. -/
def boundHoldsWrong : ChangeSpec := { name := "boundHolds", fn := fun _ => fun
  | [d1, d2] => { results := [.lit (.bool false)], args := [d1, d2] }
  | _ => none }
def BoundHoldsWrongFalsely : Prop := boundHoldsRow.holds Try.pinned (OpenSpec.ofChange boundHoldsWrong)

/-- 'heddlelaw17.BoundFresh': WHATEVER THE INPUT: true; the input reads as it did. -/
def boundFreshSpec : ChangeSpec := { name := "boundFresh", fn := fun _ => fun
  | [d] => { results := [.lit (.bool true)], args := [d] }
  | _ => none }
def boundFreshRow : OpenClaim := { program := "ytlocmnaojebogaa", sum := "e776dfbc3675340fecf8acadab07fedac05de85ee8c8a62bbfab9cf9cbdf9684", func := "heddle/heddlelaw17.BoundFresh", spec := "boundFresh", unfollowed := true, recurses := true, apart := false }
def BoundFreshSaid : Prop := boundFreshRow.holds Try.pinned (OpenSpec.ofChange boundFreshSpec)

/-- ITS FALSE NEIGHBOUR: 'it returns false'. Refute it at one input. -/
def boundFreshWrong : ChangeSpec := { name := "boundFresh", fn := fun _ => fun
  | [d] => { results := [.lit (.bool false)], args := [d] }
  | _ => none }
def BoundFreshWrongFalsely : Prop := boundFreshRow.holds Try.pinned (OpenSpec.ofChange boundFreshWrong)

/-- 'heddlelaw17.BoundAll': WHATEVER THE INPUT: true; the input reads as it did. -/
def boundAllSpec : ChangeSpec := { name := "boundAll", fn := fun _ => fun
  | [d1, d2] => { results := [.lit (.bool true)], args := [d1, d2] }
  | _ => none }
def boundAllRow : OpenClaim := { program := "ytlocmnaojebogaa", sum := "e776dfbc3675340fecf8acadab07fedac05de85ee8c8a62bbfab9cf9cbdf9684", func := "heddle/heddlelaw17.BoundAll", spec := "boundAll", unfollowed := true, recurses := true, apart := false }
def BoundAllSaid : Prop := boundAllRow.holds Try.pinned (OpenSpec.ofChange boundAllSpec)

/-- ITS FALSE NEIGHBOUR: 'it returns false'. Refute it at one input. -/
def boundAllWrong : ChangeSpec := { name := "boundAll", fn := fun _ => fun
  | [d1, d2] => { results := [.lit (.bool false)], args := [d1, d2] }
  | _ => none }
def BoundAllWrongFalsely : Prop := boundAllRow.holds Try.pinned (OpenSpec.ofChange boundAllWrong)

/- THE SECOND FORM. 'bulk': how many values and letters a reading holds, each counted each time it is reached (what is shared counts as often as it is met; a slice's spare places count too). A statement '..UptoSaid' is the law's where the arguments, and the package variables that the reading takes, are together of bulk at most 1048576: NARROWER than '..Said'. Prove '..Said' where nothing that the law and all that it calls make is longer than what came in: it says more and counts as full. Else prove '..UptoSaid'. A law counts once. -/
mutual
def uptoBulk {H : Type} : DataW H → Nat
  | .lit (.string bytes) => bytes.length + 1
  | .lit _ => 1
  | .nil => 1
  | .ptr d => uptoBulk d + 1
  | .slice elems spare => uptoBulkAll elems + uptoBulkAll spare + 1
  | .agg parts => uptoBulkAll parts + 1
  | .iface _ d => uptoBulk d + 1
  | .map entries => uptoBulkEntries entries + 1
  | .held _ => 1
def uptoBulkAll {H : Type} : List (DataW H) → Nat
  | [] => 0
  | d :: r => uptoBulk d + uptoBulkAll r
def uptoBulkEntries {H : Type} : List (Lit × DataW H) → Nat
  | [] => 0
  | x :: r => uptoBulkEntry x + uptoBulkEntries r
def uptoBulkEntry {H : Type} : Lit × DataW H → Nat
  | (.string bytes, d) => bytes.length + uptoBulk d + 1
  | (_, d) => uptoBulk d + 1
 end
def uptoSmall : (H : Type) → List (DataW H) → Bool := fun _ ds => decide (uptoBulkAll ds ≤ 1048576)
def OpenSpec.upto (s : _root_.Go.ChangeSpec) : _root_.Go.OpenSpec := { _root_.Go.OpenSpec.ofChange s with cond := some uptoSmall }

/-- 'heddlelaw17.BoundRows', WHERE WHAT IT READS IS OF BULK AT MOST 1048576: true; the input reads as it did. -/
def boundRowsUptoRow : OpenClaim := { program := "ytlocmnaojebogaa", sum := "e776dfbc3675340fecf8acadab07fedac05de85ee8c8a62bbfab9cf9cbdf9684", func := "heddle/heddlelaw17.BoundRows", spec := "boundRows", unfollowed := true, recurses := true, apart := false, narrowed := true }
def BoundRowsUptoSaid : Prop := boundRowsUptoRow.holds Try.pinned (OpenSpec.upto boundRowsSpec)

/-- 'heddlelaw17.BoundMet', WHERE WHAT IT READS IS OF BULK AT MOST 1048576: true; the input reads as it did. -/
def boundMetUptoRow : OpenClaim := { program := "ytlocmnaojebogaa", sum := "e776dfbc3675340fecf8acadab07fedac05de85ee8c8a62bbfab9cf9cbdf9684", func := "heddle/heddlelaw17.BoundMet", spec := "boundMet", inPlace := ["math/bits.Add64"], unfollowed := true, recurses := true, apart := false, narrowed := true }
def BoundMetUptoSaid : Prop := boundMetUptoRow.holds Try.pinned (OpenSpec.upto boundMetSpec)

/-- 'heddlelaw17.BoundHolds', WHERE WHAT IT READS IS OF BULK AT MOST 1048576: true; the input reads as it did. -/
def boundHoldsUptoRow : OpenClaim := { program := "ytlocmnaojebogaa", sum := "e776dfbc3675340fecf8acadab07fedac05de85ee8c8a62bbfab9cf9cbdf9684", func := "heddle/heddlelaw17.BoundHolds", spec := "boundHolds", inPlace := ["math/bits.Add64"], unfollowed := true, recurses := true, apart := false, narrowed := true }
def BoundHoldsUptoSaid : Prop := boundHoldsUptoRow.holds Try.pinned (OpenSpec.upto boundHoldsSpec)

/-- 'heddlelaw17.BoundFresh', WHERE WHAT IT READS IS OF BULK AT MOST 1048576: true; the input reads as it did. -/
def boundFreshUptoRow : OpenClaim := { program := "ytlocmnaojebogaa", sum := "e776dfbc3675340fecf8acadab07fedac05de85ee8c8a62bbfab9cf9cbdf9684", func := "heddle/heddlelaw17.BoundFresh", spec := "boundFresh", unfollowed := true, recurses := true, apart := false, narrowed := true }
def BoundFreshUptoSaid : Prop := boundFreshUptoRow.holds Try.pinned (OpenSpec.upto boundFreshSpec)

/-- 'heddlelaw17.BoundAll', WHERE WHAT IT READS IS OF BULK AT MOST 1048576: true; the input reads as it did. -/
def boundAllUptoRow : OpenClaim := { program := "ytlocmnaojebogaa", sum := "e776dfbc3675340fecf8acadab07fedac05de85ee8c8a62bbfab9cf9cbdf9684", func := "heddle/heddlelaw17.BoundAll", spec := "boundAll", unfollowed := true, recurses := true, apart := false, narrowed := true }
def BoundAllUptoSaid : Prop := boundAllUptoRow.holds Try.pinned (OpenSpec.upto boundAllSpec)

end Rows
end Go.Proofs.Ytlocmnaojebogaa
