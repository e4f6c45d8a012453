/-
  NARROWER THAN 'FOR EVERY INPUT', by the rows' own cells (each row's printed sentence says how): DotBounds: laid · DotCounts: laid · DotParts: laid · DotSums: laid · DotFresh: laid · DotNumbers: laid.
  DERIVED. THE GIVEN ROWS OF THIS SEAT. 6 by the template 'for every input the law returns true; each argument reads behind the call as it read before'; 0 by the template 'total and deterministic' (their statements: YtgciefmjbaphiaaDoorTotals.lean).
  GIVEN WITH THE SEED: the statements are not yours to turn. If you find one false, say at which input.
  Laid BY PROGRAM, IN A SANDBOX (cutbox-rows.mjs): the forced cells as the released guide's own fill.sh prints them over the translation 707a03a86583f86c… (all of the seat's roots in one cut). By AI agents, Wed Nov 11 2026. No macro, syntax, notation, axiom, sorry.
-/
import Derived.Test.YtgciefmjbaphiaaDoorChecked
import GoSem.Claim
import GoSem.ClaimJoined
import GoSem.ClaimMapViews
import Derived.JoinedTies
import Derived.KernelRfl
namespace Go.Proofs.YtgciefmjbaphiaaDoor
/- THE CELL 'sum', in the pinned program and in every row, IS THE sha256 OF THE DUMP (.gsa) THAT YtgciefmjbaphiaaDoorProg.lean LOADS. Nothing in Lean hashes anything: it is a label: what it is worth is what the hold of that sum in a sandbox is worth. -/
noncomputable def Tryd.pinned : Pinned := { name := "ytgciefmjbaphiaadoor", sum := "707a03a86583f86cf1a752fe554e7f55c104b60664d86db7832d1dad1d4fe086", checked := Tryd.checked }
namespace Rows
def none {H : Type} : Left H := { results := [], args := [] }

/- WHAT THE LISTED PACKAGE-LEVEL VARIABLES READ AS WHEN THE CALL BEGINS. Each datum BY PROGRAM (the guide's laid-datum.mjs) off the statement by which the dump's own 'gosem.cut.vars' lays the variable. In a bare row this is a premise. The card (YtgciefmjbaphiaaDoorCards.lean) ties it to the program's text. -/
def laid_heddle_dot_planeWeighs {H : Type} : DataW H := .agg [.lit (.int .i64 1), .lit (.int .i64 2), .lit (.int .i64 4), .lit (.int .i64 8), .lit (.int .i64 16), .lit (.int .i64 32), .lit (.int .i64 64), .lit (.int .i64 (-128))]

/-- 'heddlelaw10.DotBounds': WHATEVER THE INPUT: true; the input reads as it did. -/
def dotBoundsSpec : ChangeSpec := { name := "dotBounds", fn := fun _ => fun
  | [d1, d2, d3, d4] => { results := [.lit (.bool true)], args := [d1, d2, d3, d4] }
  | _ => none }
def dotBoundsRow : OpenClaim := { program := "ytgciefmjbaphiaadoor", sum := "707a03a86583f86cf1a752fe554e7f55c104b60664d86db7832d1dad1d4fe086", func := "heddle/heddlelaw10.DotBounds", spec := "dotBounds", named := ["heddle/dot.planeWeighs"], apart := false, laid := [("heddle/dot.planeWeighs", laid_heddle_dot_planeWeighs)] }
def DotBoundsSaid : Prop := dotBoundsRow.holds Tryd.pinned (OpenSpec.ofChange dotBoundsSpec)

/-- ITS FALSE NEIGHBOUR: 'it returns false'. Refute it at one input. -/
def dotBoundsWrong : ChangeSpec := { name := "dotBounds", fn := fun _ => fun
  | [d1, d2, d3, d4] => { results := [.lit (.bool false)], args := [d1, d2, d3, d4] }
  | _ => none }
def DotBoundsWrongFalsely : Prop := dotBoundsRow.holds Tryd.pinned (OpenSpec.ofChange dotBoundsWrong)

/-- 'heddlelaw10.DotCounts': WHATEVER THE INPUT: true; the input reads as it did. -/
def dotCountsSpec : ChangeSpec := { name := "dotCounts", fn := fun _ => fun
  | [d1, d2] => { results := [.lit (.bool true)], args := [d1, d2] }
  | _ => none }
def dotCountsRow : OpenClaim := { program := "ytgciefmjbaphiaadoor", sum := "707a03a86583f86cf1a752fe554e7f55c104b60664d86db7832d1dad1d4fe086", func := "heddle/heddlelaw10.DotCounts", spec := "dotCounts", named := ["heddle/dot.planeWeighs"], apart := false, laid := [("heddle/dot.planeWeighs", laid_heddle_dot_planeWeighs)] }
def DotCountsSaid : Prop := dotCountsRow.holds Tryd.pinned (OpenSpec.ofChange dotCountsSpec)

/-- ITS FALSE NEIGHBOUR: 'it returns false'. Refute it at one input. -/
def dotCountsWrong : ChangeSpec := { name := "dotCounts", fn := fun _ => fun
  | [d1, d2] => { results := [.lit (.bool false)], args := [d1, d2] }
  | _ => none }
def DotCountsWrongFalsely : Prop := dotCountsRow.holds Tryd.pinned (OpenSpec.ofChange dotCountsWrong)

/-- 'heddlelaw10.DotParts': WHATEVER THE INPUT: true; the input reads as it did. -/
def dotPartsSpec : ChangeSpec := { name := "dotParts", fn := fun _ => fun
  | [d1, d2, d3] => { results := [.lit (.bool true)], args := [d1, d2, d3] }
  | _ => none }
def dotPartsRow : OpenClaim := { program := "ytgciefmjbaphiaadoor", sum := "707a03a86583f86cf1a752fe554e7f55c104b60664d86db7832d1dad1d4fe086", func := "heddle/heddlelaw10.DotParts", spec := "dotParts", named := ["heddle/dot.planeWeighs"], apart := false, laid := [("heddle/dot.planeWeighs", laid_heddle_dot_planeWeighs)] }
def DotPartsSaid : Prop := dotPartsRow.holds Tryd.pinned (OpenSpec.ofChange dotPartsSpec)

/-- ITS FALSE NEIGHBOUR: 'it returns false'. Refute it at one input. -/
def dotPartsWrong : ChangeSpec := { name := "dotParts", fn := fun _ => fun
  | [d1, d2, d3] => { results := [.lit (.bool false)], args := [d1, d2, d3] }
  | _ => none }
def DotPartsWrongFalsely : Prop := dotPartsRow.holds Tryd.pinned (OpenSpec.ofChange dotPartsWrong)

/-- 'heddlelaw10.DotSums': WHATEVER THE INPUT: true; the input reads as it did. -/
def dotSumsSpec : ChangeSpec := { name := "dotSums", fn := fun _ => fun
  | [d1, d2] => { results := [.lit (.bool true)], args := [d1, d2] }
  | _ => none }
def dotSumsRow : OpenClaim := { program := "ytgciefmjbaphiaadoor", sum := "707a03a86583f86cf1a752fe554e7f55c104b60664d86db7832d1dad1d4fe086", func := "heddle/heddlelaw10.DotSums", spec := "dotSums", named := ["heddle/dot.planeWeighs"], apart := false, laid := [("heddle/dot.planeWeighs", laid_heddle_dot_planeWeighs)] }
def DotSumsSaid : Prop := dotSumsRow.holds Tryd.pinned (OpenSpec.ofChange dotSumsSpec)

/-- ITS FALSE NEIGHBOUR: 'it returns false'. Refute it at one input. -/
def dotSumsWrong : ChangeSpec := { name := "dotSums", fn := fun _ => fun
  | [d1, d2] => { results := [.lit (.bool false)], args := [d1, d2] }
  | _ => none }
def DotSumsWrongFalsely : Prop := dotSumsRow.holds Tryd.pinned (OpenSpec.ofChange dotSumsWrong)

/-- 'heddlelaw10.DotFresh': WHATEVER THE INPUT: true; the input reads as it did. -/
def dotFreshSpec : ChangeSpec := { name := "dotFresh", fn := fun _ => fun
  | [d] => { results := [.lit (.bool true)], args := [d] }
  | _ => none }
def dotFreshRow : OpenClaim := { program := "ytgciefmjbaphiaadoor", sum := "707a03a86583f86cf1a752fe554e7f55c104b60664d86db7832d1dad1d4fe086", func := "heddle/heddlelaw10.DotFresh", spec := "dotFresh", named := ["heddle/dot.planeWeighs"], apart := false, laid := [("heddle/dot.planeWeighs", laid_heddle_dot_planeWeighs)] }
def DotFreshSaid : Prop := dotFreshRow.holds Tryd.pinned (OpenSpec.ofChange dotFreshSpec)

/-- ITS FALSE NEIGHBOUR: 'it returns false'. Refute it at one input. -/
def dotFreshWrong : ChangeSpec := { name := "dotFresh", fn := fun _ => fun
  | [d] => { results := [.lit (.bool false)], args := [d] }
  | _ => none }
def DotFreshWrongFalsely : Prop := dotFreshRow.holds Tryd.pinned (OpenSpec.ofChange dotFreshWrong)

/-- 'heddlelaw10.DotNumbers': WHATEVER THE INPUT: true; the input reads as it did. -/
def dotNumbersSpec : ChangeSpec := { name := "dotNumbers", fn := fun _ => fun
  | [d1, d2, d3, d4] => { results := [.lit (.bool true)], args := [d1, d2, d3, d4] }
  | _ => none }
def dotNumbersRow : OpenClaim := { program := "ytgciefmjbaphiaadoor", sum := "707a03a86583f86cf1a752fe554e7f55c104b60664d86db7832d1dad1d4fe086", func := "heddle/heddlelaw10.DotNumbers", spec := "dotNumbers", named := ["heddle/dot.planeWeighs"], apart := false, laid := [("heddle/dot.planeWeighs", laid_heddle_dot_planeWeighs)] }
def DotNumbersSaid : Prop := dotNumbersRow.holds Tryd.pinned (OpenSpec.ofChange dotNumbersSpec)

/-- ITS FALSE NEIGHBOUR: 'it returns false'. Refute it at one input. -/
def dotNumbersWrong : ChangeSpec := { name := "dotNumbers", fn := fun _ => fun
  | [d1, d2, d3, d4] => { results := [.lit (.bool false)], args := [d1, d2, d3, d4] }
  | _ => none }
def DotNumbersWrongFalsely : Prop := dotNumbersRow.holds Tryd.pinned (OpenSpec.ofChange dotNumbersWrong)

/- THE SECOND FORM. 'bulk': how many values and letters a reading holds, each counted each time it is reached (what is shared counts as often as it is met; a slice's spare places count too). A statement '..UptoSaid' is the law's where the arguments, and the package variables that the reading takes, are together of bulk at most 1048576: NARROWER than '..Said'. Prove '..Said' where nothing that the law and all that it calls make is longer than what came in: it says more and counts as full. Else prove '..UptoSaid'. A law counts once. -/
mutual
def uptoBulk {H : Type} : DataW H → Nat
  | .lit (.string bytes) => bytes.length + 1
  | .lit _ => 1
  | .nil => 1
  | .ptr d => uptoBulk d + 1
  | .slice elems spare => uptoBulkAll elems + uptoBulkAll spare + 1
  | .agg parts => uptoBulkAll parts + 1
  | .iface _ d => uptoBulk d + 1
  | .map entries => uptoBulkEntries entries + 1
  | .held _ => 1
def uptoBulkAll {H : Type} : List (DataW H) → Nat
  | [] => 0
  | d :: r => uptoBulk d + uptoBulkAll r
def uptoBulkEntries {H : Type} : List (Lit × DataW H) → Nat
  | [] => 0
  | x :: r => uptoBulkEntry x + uptoBulkEntries r
def uptoBulkEntry {H : Type} : Lit × DataW H → Nat
  | (.string bytes, d) => bytes.length + uptoBulk d + 1
  | (_, d) => uptoBulk d + 1
 end
def uptoSmall : (H : Type) → List (DataW H) → Bool := fun _ ds => decide (uptoBulkAll ds ≤ 1048576)
def OpenSpec.upto (s : _root_.Go.ChangeSpec) : _root_.Go.OpenSpec := { _root_.Go.OpenSpec.ofChange s with cond := some uptoSmall }

/-- 'heddlelaw10.DotBounds', WHERE WHAT IT READS IS OF BULK AT MOST 1048576: true; the input reads as it did. -/
def dotBoundsUptoRow : OpenClaim := { program := "ytgciefmjbaphiaadoor", sum := "707a03a86583f86cf1a752fe554e7f55c104b60664d86db7832d1dad1d4fe086", func := "heddle/heddlelaw10.DotBounds", spec := "dotBounds", named := ["heddle/dot.planeWeighs"], apart := false, laid := [("heddle/dot.planeWeighs", laid_heddle_dot_planeWeighs)], narrowed := true }
def DotBoundsUptoSaid : Prop := dotBoundsUptoRow.holds Tryd.pinned (OpenSpec.upto dotBoundsSpec)

/-- 'heddlelaw10.DotCounts', WHERE WHAT IT READS IS OF BULK AT MOST 1048576: true; the input reads as it did. -/
def dotCountsUptoRow : OpenClaim := { program := "ytgciefmjbaphiaadoor", sum := "707a03a86583f86cf1a752fe554e7f55c104b60664d86db7832d1dad1d4fe086", func := "heddle/heddlelaw10.DotCounts", spec := "dotCounts", named := ["heddle/dot.planeWeighs"], apart := false, laid := [("heddle/dot.planeWeighs", laid_heddle_dot_planeWeighs)], narrowed := true }
def DotCountsUptoSaid : Prop := dotCountsUptoRow.holds Tryd.pinned (OpenSpec.upto dotCountsSpec)

/-- 'heddlelaw10.DotParts', WHERE WHAT IT READS IS OF BULK AT MOST 1048576: true; the input reads as it did. -/
def dotPartsUptoRow : OpenClaim := { program := "ytgciefmjbaphiaadoor", sum := "707a03a86583f86cf1a752fe554e7f55c104b60664d86db7832d1dad1d4fe086", func := "heddle/heddlelaw10.DotParts", spec := "dotParts", named := ["heddle/dot.planeWeighs"], apart := false, laid := [("heddle/dot.planeWeighs", laid_heddle_dot_planeWeighs)], narrowed := true }
def DotPartsUptoSaid : Prop := dotPartsUptoRow.holds Tryd.pinned (OpenSpec.upto dotPartsSpec)

/-- 'heddlelaw10.DotSums', WHERE WHAT IT READS IS OF BULK AT MOST 1048576: true; the input reads as it did. -/
def dotSumsUptoRow : OpenClaim := { program := "ytgciefmjbaphiaadoor", sum := "707a03a86583f86cf1a752fe554e7f55c104b60664d86db7832d1dad1d4fe086", func := "heddle/heddlelaw10.DotSums", spec := "dotSums", named := ["heddle/dot.planeWeighs"], apart := false, laid := [("heddle/dot.planeWeighs", laid_heddle_dot_planeWeighs)], narrowed := true }
def DotSumsUptoSaid : Prop := dotSumsUptoRow.holds Tryd.pinned (OpenSpec.upto dotSumsSpec)

/-- 'heddlelaw10.DotFresh', WHERE WHAT IT READS IS OF BULK AT MOST 1048576: true; the input reads as it did. -/
def dotFreshUptoRow : OpenClaim := { program := "ytgciefmjbaphiaadoor", sum := "707a03a86583f86cf1a752fe554e7f55c104b60664d86db7832d1dad1d4fe086", func := "heddle/heddlelaw10.DotFresh", spec := "dotFresh", named := ["heddle/dot.planeWeighs"], apart := false, laid := [("heddle/dot.planeWeighs", laid_heddle_dot_planeWeighs)], narrowed := true }
def DotFreshUptoSaid : Prop := dotFreshUptoRow.holds Tryd.pinned (OpenSpec.upto dotFreshSpec)

/-- 'heddlelaw10.DotNumbers', WHERE WHAT IT READS IS OF BULK AT MOST 1048576: true; the input reads as it did. -/
def dotNumbersUptoRow : OpenClaim := { program := "ytgciefmjbaphiaadoor", sum := "707a03a86583f86cf1a752fe554e7f55c104b60664d86db7832d1dad1d4fe086", func := "heddle/heddlelaw10.DotNumbers", spec := "dotNumbers", named := ["heddle/dot.planeWeighs"], apart := false, laid := [("heddle/dot.planeWeighs", laid_heddle_dot_planeWeighs)], narrowed := true }
def DotNumbersUptoSaid : Prop := dotNumbersUptoRow.holds Tryd.pinned (OpenSpec.upto dotNumbersSpec)

end Rows
end Go.Proofs.YtgciefmjbaphiaaDoor
