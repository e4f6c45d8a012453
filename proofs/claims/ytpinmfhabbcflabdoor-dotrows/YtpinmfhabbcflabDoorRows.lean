/-
  NARROWER THAN 'FOR EVERY INPUT', by the rows' own cells (each row's printed sentence says how): DotRows: laid · DotScript: laid.
  DERIVED. THE GIVEN ROWS OF THIS SEAT. 2 by the template 'for every input the law returns true; each argument reads behind the call as it read before'; 0 by the template 'total and deterministic' (their statements: YtpinmfhabbcflabDoorTotals.lean).
  GIVEN WITH THE SEED: the statements are not yours to turn. If you find one false, say at which input.
  Laid BY PROGRAM, IN A SANDBOX (cutbox-rows.mjs): the forced cells as the released guide's own fill.sh prints them over the translation 9a2ad18964a417c8… (all of the seat's roots in one cut). By AI agents, Wed Nov 11 2026. No macro, syntax, notation, axiom, sorry.
-/
import Derived.Test.YtpinmfhabbcflabDoorChecked
import GoSem.Claim
import GoSem.ClaimJoined
import GoSem.ClaimMapViews
import Derived.JoinedTies
import Derived.KernelRfl
namespace Go.Proofs.YtpinmfhabbcflabDoor
/- THE CELL 'sum', in the pinned program and in every row, IS THE sha256 OF THE DUMP (.gsa) THAT YtpinmfhabbcflabDoorProg.lean LOADS. Nothing in Lean hashes anything: it is a label: what it is worth is what the hold of that sum in a sandbox is worth. -/
noncomputable def Tryd.pinned : Pinned := { name := "ytpinmfhabbcflabdoor", sum := "9a2ad18964a417c8581b70993675a75eae8692753d7f0f1d85772c48f3ea444a", checked := Tryd.checked }
namespace Rows
def none {H : Type} : Left H := { results := [], args := [] }

/- WHAT THE LISTED PACKAGE-LEVEL VARIABLES READ AS WHEN THE CALL BEGINS. Each datum BY PROGRAM (the guide's laid-datum.mjs) off the statement by which the dump's own 'gosem.cut.vars' lays the variable. In a bare row this is a premise. The card (YtpinmfhabbcflabDoorCards.lean) ties it to the program's text. -/
def laid_heddle_dot_planeWeighs {H : Type} : DataW H := .agg [.lit (.int .i64 1), .lit (.int .i64 2), .lit (.int .i64 4), .lit (.int .i64 8), .lit (.int .i64 16), .lit (.int .i64 32), .lit (.int .i64 64), .lit (.int .i64 (-128))]

/-- 'heddlelaw10.DotRows': WHATEVER THE INPUT: true; the input reads as it did. -/
def dotRowsSpec : ChangeSpec := { name := "dotRows", fn := fun _ => fun
  | [d1, d2] => { results := [.lit (.bool true)], args := [d1, d2] }
  | _ => none }
def dotRowsRow : OpenClaim := { program := "ytpinmfhabbcflabdoor", sum := "9a2ad18964a417c8581b70993675a75eae8692753d7f0f1d85772c48f3ea444a", func := "heddle/heddlelaw10.DotRows", spec := "dotRows", named := ["heddle/dot.planeWeighs"], apart := false, laid := [("heddle/dot.planeWeighs", laid_heddle_dot_planeWeighs)] }
def DotRowsSaid : Prop := dotRowsRow.holds Tryd.pinned (OpenSpec.ofChange dotRowsSpec)

/-- ITS FALSE NEIGHBOUR: 'it returns false'. Refute it at one input. -/
def dotRowsWrong : ChangeSpec := { name := "dotRows", fn := fun _ => fun
  | [d1, d2] => { results := [.lit (.bool false)], args := [d1, d2] }
  | _ => none }
def DotRowsWrongFalsely : Prop := dotRowsRow.holds Tryd.pinned (OpenSpec.ofChange dotRowsWrong)

/-- 'heddlelaw10.DotScript': WHATEVER THE INPUT: true; the input reads as it did. -/
def dotScriptSpec : ChangeSpec := { name := "dotScript", fn := fun _ => fun
  | [d] => { results := [.lit (.bool true)], args := [d] }
  | _ => none }
def dotScriptRow : OpenClaim := { program := "ytpinmfhabbcflabdoor", sum := "9a2ad18964a417c8581b70993675a75eae8692753d7f0f1d85772c48f3ea444a", func := "heddle/heddlelaw10.DotScript", spec := "dotScript", named := ["heddle/dot.planeWeighs"], apart := false, laid := [("heddle/dot.planeWeighs", laid_heddle_dot_planeWeighs)] }
def DotScriptSaid : Prop := dotScriptRow.holds Tryd.pinned (OpenSpec.ofChange dotScriptSpec)

/-- ITS FALSE NEIGHBOUR: 'it returns false'. Refute it at one input. -/
def dotScriptWrong : ChangeSpec := { name := "dotScript", fn := fun _ => fun
  | [d] => { results := [.lit (.bool false)], args := [d] }
  | _ => none }
def DotScriptWrongFalsely : Prop := dotScriptRow.holds Tryd.pinned (OpenSpec.ofChange dotScriptWrong)

/- THE SECOND FORM. 'bulk': how many values and letters a reading holds, each counted each time it is reached (what is shared counts as often as it is met; a slice's spare places count too). A statement '..UptoSaid' is the law's where the arguments, and the package variables that the reading takes, are together of bulk at most 1048576: NARROWER than '..Said'. Prove '..Said' where nothing that the law and all that it calls make is longer than what came in: it says more and counts as full. Else prove '..UptoSaid'. A law counts once. -/
mutual
def uptoBulk {H : Type} : DataW H → Nat
  | .lit (.string bytes) => bytes.length + 1
  | .lit _ => 1
  | .nil => 1
  | .ptr d => uptoBulk d + 1
  | .slice elems spare => uptoBulkAll elems + uptoBulkAll spare + 1
  | .agg parts => uptoBulkAll parts + 1
  | .iface _ d => uptoBulk d + 1
  | .map entries => uptoBulkEntries entries + 1
  | .held _ => 1
def uptoBulkAll {H : Type} : List (DataW H) → Nat
  | [] => 0
  | d :: r => uptoBulk d + uptoBulkAll r
def uptoBulkEntries {H : Type} : List (Lit × DataW H) → Nat
  | [] => 0
  | x :: r => uptoBulkEntry x + uptoBulkEntries r
def uptoBulkEntry {H : Type} : Lit × DataW H → Nat
  | (.string bytes, d) => bytes.length + uptoBulk d + 1
  | (_, d) => uptoBulk d + 1
 end
def uptoSmall : (H : Type) → List (DataW H) → Bool := fun _ ds => decide (uptoBulkAll ds ≤ 1048576)
def OpenSpec.upto (s : _root_.Go.ChangeSpec) : _root_.Go.OpenSpec := { _root_.Go.OpenSpec.ofChange s with cond := some uptoSmall }

/-- 'heddlelaw10.DotRows', WHERE WHAT IT READS IS OF BULK AT MOST 1048576: true; the input reads as it did. -/
def dotRowsUptoRow : OpenClaim := { program := "ytpinmfhabbcflabdoor", sum := "9a2ad18964a417c8581b70993675a75eae8692753d7f0f1d85772c48f3ea444a", func := "heddle/heddlelaw10.DotRows", spec := "dotRows", named := ["heddle/dot.planeWeighs"], apart := false, laid := [("heddle/dot.planeWeighs", laid_heddle_dot_planeWeighs)], narrowed := true }
def DotRowsUptoSaid : Prop := dotRowsUptoRow.holds Tryd.pinned (OpenSpec.upto dotRowsSpec)

/-- 'heddlelaw10.DotScript', WHERE WHAT IT READS IS OF BULK AT MOST 1048576: true; the input reads as it did. -/
def dotScriptUptoRow : OpenClaim := { program := "ytpinmfhabbcflabdoor", sum := "9a2ad18964a417c8581b70993675a75eae8692753d7f0f1d85772c48f3ea444a", func := "heddle/heddlelaw10.DotScript", spec := "dotScript", named := ["heddle/dot.planeWeighs"], apart := false, laid := [("heddle/dot.planeWeighs", laid_heddle_dot_planeWeighs)], narrowed := true }
def DotScriptUptoSaid : Prop := dotScriptUptoRow.holds Tryd.pinned (OpenSpec.upto dotScriptSpec)

end Rows
end Go.Proofs.YtpinmfhabbcflabDoor
