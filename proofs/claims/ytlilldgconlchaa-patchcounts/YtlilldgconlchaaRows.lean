/-
  No cell of these rows narrows 'for every input' (looked for: loops, veiled, ifaces, maps, wideKeys, modest, calm, conditions, laid).
  DERIVED. THE GIVEN ROWS OF THIS SEAT. 6 by the template 'for every input the law returns true; each argument reads behind the call as it read before'; 0 by the template 'total and deterministic' (their statements: YtlilldgconlchaaTotals.lean).
  GIVEN WITH THE SEED: the statements are not yours to turn. If you find one false, say at which input.
  Laid BY PROGRAM, IN A SANDBOX (cutbox-rows.mjs): the forced cells as the released guide's own fill.sh prints them over the translation 4e53814b9cbdf71d… (all of the seat's roots in one cut). By AI agents, Wed Nov 11 2026. No macro, syntax, notation, axiom, sorry.
-/
import Derived.Test.YtlilldgconlchaaChecked
import GoSem.Claim
import GoSem.ClaimJoined
import GoSem.ClaimMapViews
import Derived.JoinedTies
import Derived.KernelRfl
namespace Go.Proofs.Ytlilldgconlchaa
/- THE CELL 'sum', in the pinned program and in every row, IS THE sha256 OF THE DUMP (.gsa) THAT YtlilldgconlchaaProg.lean LOADS. Nothing in Lean hashes anything: it is a label: what it is worth is what the hold of that sum in a sandbox is worth. -/
noncomputable def Try.pinned : Pinned := { name := "ytlilldgconlchaa", sum := "4e53814b9cbdf71d3d5ffd3f77114c38cb845491674d227626c1e06c89aa90bc", checked := Try.checked }
namespace Rows
def none {H : Type} : Left H := { results := [], args := [] }

/-- 'heddlelaw13.PatchMoved': WHATEVER THE INPUT: true; the input reads as it did. -/
def patchMovedSpec : ChangeSpec := { name := "patchMoved", fn := fun _ => fun
  | [d1, d2, d3] => { results := [.lit (.bool true)], args := [d1, d2, d3] }
  | _ => none }
def patchMovedRow : OpenClaim := { program := "ytlilldgconlchaa", sum := "4e53814b9cbdf71d3d5ffd3f77114c38cb845491674d227626c1e06c89aa90bc", func := "heddle/heddlelaw13.PatchMoved", spec := "patchMoved", unfollowed := true, recurses := true, apart := false }
def PatchMovedSaid : Prop := patchMovedRow.holds Try.pinned (OpenSpec.ofChange patchMovedSpec)

/-- ITS FALSE NEIGHBOUR: 'it returns false'. Refute it at one input. -/
def patchMovedWrong : ChangeSpec := { name := "patchMoved", fn := fun _ => fun
  | [d1, d2, d3] => { results := [.lit (.bool false)], args := [d1, d2, d3] }
  | _ => none }
def PatchMovedWrongFalsely : Prop := patchMovedRow.holds Try.pinned (OpenSpec.ofChange patchMovedWrong)

/-- 'heddlelaw13.PatchCounts': WHATEVER THE INPUT: true; the input reads as it did. -/
def patchCountsSpec : ChangeSpec := { name := "patchCounts", fn := fun _ => fun
  | [d1, d2, d3, d4, d5] => { results := [.lit (.bool true)], args := [d1, d2, d3, d4, d5] }
  | _ => none }
def patchCountsRow : OpenClaim := { program := "ytlilldgconlchaa", sum := "4e53814b9cbdf71d3d5ffd3f77114c38cb845491674d227626c1e06c89aa90bc", func := "heddle/heddlelaw13.PatchCounts", spec := "patchCounts", unfollowed := true, recurses := true, apart := false }
def PatchCountsSaid : Prop := patchCountsRow.holds Try.pinned (OpenSpec.ofChange patchCountsSpec)

/-- ITS FALSE NEIGHBOUR: 'it returns false'. Refute it at one input. -/
def patchCountsWrong : ChangeSpec := { name := "patchCounts", fn := fun _ => fun
  | [d1, d2, d3, d4, d5] => { results := [.lit (.bool false)], args := [d1, d2, d3, d4, d5] }
  | _ => none }
def PatchCountsWrongFalsely : Prop := patchCountsRow.holds Try.pinned (OpenSpec.ofChange patchCountsWrong)

/-- 'heddlelaw13.PatchFresh': WHATEVER THE INPUT: true; the input reads as it did. -/
def patchFreshSpec : ChangeSpec := { name := "patchFresh", fn := fun _ => fun
  | [d1, d2, d3, d4, d5] => { results := [.lit (.bool true)], args := [d1, d2, d3, d4, d5] }
  | _ => none }
def patchFreshRow : OpenClaim := { program := "ytlilldgconlchaa", sum := "4e53814b9cbdf71d3d5ffd3f77114c38cb845491674d227626c1e06c89aa90bc", func := "heddle/heddlelaw13.PatchFresh", spec := "patchFresh", unfollowed := true, recurses := true, apart := false }
def PatchFreshSaid : Prop := patchFreshRow.holds Try.pinned (OpenSpec.ofChange patchFreshSpec)

/-- ITS FALSE NEIGHBOUR: 'it returns false'. Refute it at one input. -/
def patchFreshWrong : ChangeSpec := { name := "patchFresh", fn := fun _ => fun
  | [d1, d2, d3, d4, d5] => { results := [.lit (.bool false)], args := [d1, d2, d3, d4, d5] }
  | _ => none }
def PatchFreshWrongFalsely : Prop := patchFreshRow.holds Try.pinned (OpenSpec.ofChange patchFreshWrong)

/-- 'heddlelaw13.PatchRows': WHATEVER THE INPUT: true; the input reads as it did. -/
def patchRowsSpec : ChangeSpec := { name := "patchRows", fn := fun _ => fun
  | [d1, d2, d3] => { results := [.lit (.bool true)], args := [d1, d2, d3] }
  | _ => none }
def patchRowsRow : OpenClaim := { program := "ytlilldgconlchaa", sum := "4e53814b9cbdf71d3d5ffd3f77114c38cb845491674d227626c1e06c89aa90bc", func := "heddle/heddlelaw13.PatchRows", spec := "patchRows", unfollowed := true, recurses := true, apart := false }
def PatchRowsSaid : Prop := patchRowsRow.holds Try.pinned (OpenSpec.ofChange patchRowsSpec)

/-- ITS FALSE NEIGHBOUR: 'it returns false'. Refute it at one input. -/
def patchRowsWrong : ChangeSpec := { name := "patchRows", fn := fun _ => fun
  | [d1, d2, d3] => { results := [.lit (.bool false)], args := [d1, d2, d3] }
  | _ => none }
def PatchRowsWrongFalsely : Prop := patchRowsRow.holds Try.pinned (OpenSpec.ofChange patchRowsWrong)

/-- 'heddlelaw13.PatchSees': WHATEVER THE INPUT: true; the input reads as it did. -/
def patchSeesSpec : ChangeSpec := { name := "patchSees", fn := fun _ => fun
  | [d1, d2, d3] => { results := [.lit (.bool true)], args := [d1, d2, d3] }
  | _ => none }
def patchSeesRow : OpenClaim := { program := "ytlilldgconlchaa", sum := "4e53814b9cbdf71d3d5ffd3f77114c38cb845491674d227626c1e06c89aa90bc", func := "heddle/heddlelaw13.PatchSees", spec := "patchSees", unfollowed := true, recurses := true, apart := false }
def PatchSeesSaid : Prop := patchSeesRow.holds Try.pinned (OpenSpec.ofChange patchSeesSpec)

/-- ITS FALSE NEIGHBOUR: 'it returns false'. Refute it at one input. -/
def patchSeesWrong : ChangeSpec := { name := "patchSees", fn := fun _ => fun
  | [d1, d2, d3] => { results := [.lit (.bool false)], args := [d1, d2, d3] }
  | _ => none }
def PatchSeesWrongFalsely : Prop := patchSeesRow.holds Try.pinned (OpenSpec.ofChange patchSeesWrong)

/-- 'heddlelaw13.PatchScript': WHATEVER THE INPUT: true; the input reads as it did. -/
def patchScriptSpec : ChangeSpec := { name := "patchScript", fn := fun _ => fun
  | [d] => { results := [.lit (.bool true)], args := [d] }
  | _ => none }
def patchScriptRow : OpenClaim := { program := "ytlilldgconlchaa", sum := "4e53814b9cbdf71d3d5ffd3f77114c38cb845491674d227626c1e06c89aa90bc", func := "heddle/heddlelaw13.PatchScript", spec := "patchScript", unfollowed := true, recurses := true, apart := false }
def PatchScriptSaid : Prop := patchScriptRow.holds Try.pinned (OpenSpec.ofChange patchScriptSpec)

/-- ITS FALSE NEIGHBOUR: 'it returns false'. Refute it at one input. -/
def patchScriptWrong : ChangeSpec := { name := "patchScript", fn := fun _ => fun
  | [d] => { results := [.lit (.bool false)], args := [d] }
  | _ => none }
def PatchScriptWrongFalsely : Prop := patchScriptRow.holds Try.pinned (OpenSpec.ofChange patchScriptWrong)

/- THE SECOND FORM. 'bulk': how many values and letters a reading holds, each counted each time it is reached (what is shared counts as often as it is met; a slice's spare places count too). A statement '..UptoSaid' is the law's where the arguments, and the package variables that the reading takes, are together of bulk at most 1048576: NARROWER than '..Said'. Prove '..Said' where nothing that the law and all that it calls make is longer than what came in: it says more and counts as full. Else prove '..UptoSaid'. A law counts once. -/
mutual
def uptoBulk {H : Type} : DataW H → Nat
  | .lit (.string bytes) => bytes.length + 1
  | .lit _ => 1
  | .nil => 1
  | .ptr d => uptoBulk d + 1
  | .slice elems spare => uptoBulkAll elems + uptoBulkAll spare + 1
  | .agg parts => uptoBulkAll parts + 1
  | .iface _ d => uptoBulk d + 1
  | .map entries => uptoBulkEntries entries + 1
  | .held _ => 1
def uptoBulkAll {H : Type} : List (DataW H) → Nat
  | [] => 0
  | d :: r => uptoBulk d + uptoBulkAll r
def uptoBulkEntries {H : Type} : List (Lit × DataW H) → Nat
  | [] => 0
  | x :: r => uptoBulkEntry x + uptoBulkEntries r
def uptoBulkEntry {H : Type} : Lit × DataW H → Nat
  | (.string bytes, d) => bytes.length + uptoBulk d + 1
  | (_, d) => uptoBulk d + 1
 end
def uptoSmall : (H : Type) → List (DataW H) → Bool := fun _ ds => decide (uptoBulkAll ds ≤ 1048576)
def OpenSpec.upto (s : _root_.Go.ChangeSpec) : _root_.Go.OpenSpec := { _root_.Go.OpenSpec.ofChange s with cond := some uptoSmall }

/-- 'heddlelaw13.PatchMoved', WHERE WHAT IT READS IS OF BULK AT MOST 1048576: true; the input reads as it did. -/
def patchMovedUptoRow : OpenClaim := { program := "ytlilldgconlchaa", sum := "4e53814b9cbdf71d3d5ffd3f77114c38cb845491674d227626c1e06c89aa90bc", func := "heddle/heddlelaw13.PatchMoved", spec := "patchMoved", unfollowed := true, recurses := true, apart := false, narrowed := true }
def PatchMovedUptoSaid : Prop := patchMovedUptoRow.holds Try.pinned (OpenSpec.upto patchMovedSpec)

/-- 'heddlelaw13.PatchCounts', WHERE WHAT IT READS IS OF BULK AT MOST 1048576: true; the input reads as it did. -/
def patchCountsUptoRow : OpenClaim := { program := "ytlilldgconlchaa", sum := "4e53814b9cbdf71d3d5ffd3f77114c38cb845491674d227626c1e06c89aa90bc", func := "heddle/heddlelaw13.PatchCounts", spec := "patchCounts", unfollowed := true, recurses := true, apart := false, narrowed := true }
def PatchCountsUptoSaid : Prop := patchCountsUptoRow.holds Try.pinned (OpenSpec.upto patchCountsSpec)

/-- 'heddlelaw13.PatchFresh', WHERE WHAT IT READS IS OF BULK AT MOST 1048576: true; the input reads as it did. -/
def patchFreshUptoRow : OpenClaim := { program := "ytlilldgconlchaa", sum := "4e53814b9cbdf71d3d5ffd3f77114c38cb845491674d227626c1e06c89aa90bc", func := "heddle/heddlelaw13.PatchFresh", spec := "patchFresh", unfollowed := true, recurses := true, apart := false, narrowed := true }
def PatchFreshUptoSaid : Prop := patchFreshUptoRow.holds Try.pinned (OpenSpec.upto patchFreshSpec)

/-- 'heddlelaw13.PatchRows', WHERE WHAT IT READS IS OF BULK AT MOST 1048576: true; the input reads as it did. -/
def patchRowsUptoRow : OpenClaim := { program := "ytlilldgconlchaa", sum := "4e53814b9cbdf71d3d5ffd3f77114c38cb845491674d227626c1e06c89aa90bc", func := "heddle/heddlelaw13.PatchRows", spec := "patchRows", unfollowed := true, recurses := true, apart := false, narrowed := true }
def PatchRowsUptoSaid : Prop := patchRowsUptoRow.holds Try.pinned (OpenSpec.upto patchRowsSpec)

/-- 'heddlelaw13.PatchSees', WHERE WHAT IT READS IS OF BULK AT MOST 1048576: true; the input reads as it did. -/
def patchSeesUptoRow : OpenClaim := { program := "ytlilldgconlchaa", sum := "4e53814b9cbdf71d3d5ffd3f77114c38cb845491674d227626c1e06c89aa90bc", func := "heddle/heddlelaw13.PatchSees", spec := "patchSees", unfollowed := true, recurses := true, apart := false, narrowed := true }
def PatchSeesUptoSaid : Prop := patchSeesUptoRow.holds Try.pinned (OpenSpec.upto patchSeesSpec)

/-- 'heddlelaw13.PatchScript', WHERE WHAT IT READS IS OF BULK AT MOST 1048576: true; the input reads as it did. -/
def patchScriptUptoRow : OpenClaim := { program := "ytlilldgconlchaa", sum := "4e53814b9cbdf71d3d5ffd3f77114c38cb845491674d227626c1e06c89aa90bc", func := "heddle/heddlelaw13.PatchScript", spec := "patchScript", unfollowed := true, recurses := true, apart := false, narrowed := true }
def PatchScriptUptoSaid : Prop := patchScriptUptoRow.holds Try.pinned (OpenSpec.upto patchScriptSpec)

end Rows
end Go.Proofs.Ytlilldgconlchaa
