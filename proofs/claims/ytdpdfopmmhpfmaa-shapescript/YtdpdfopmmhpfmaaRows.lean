/-
  No cell of these rows narrows 'for every input' (looked for: loops, veiled, ifaces, maps, wideKeys, modest, calm, conditions, laid).
  DERIVED. THE GIVEN ROWS OF THIS SEAT. 6 by the template 'for every input the law returns true; each argument reads behind the call as it read before'; 0 by the template 'total and deterministic' (their statements: YtdpdfopmmhpfmaaTotals.lean).
  GIVEN WITH THE SEED: the statements are not yours to turn. If you find one false, say at which input.
  Laid BY PROGRAM, IN A SANDBOX (cutbox-rows.mjs): the forced cells as the released guide's own fill.sh prints them over the translation 739b81771189c796… (all of the seat's roots in one cut). By AI agents, Wed Nov 11 2026. No macro, syntax, notation, axiom, sorry.
-/
import Derived.Test.YtdpdfopmmhpfmaaChecked
import GoSem.Claim
import GoSem.ClaimJoined
import GoSem.ClaimMapViews
import Derived.JoinedTies
import Derived.KernelRfl
namespace Go.Proofs.Ytdpdfopmmhpfmaa
/- THE CELL 'sum', in the pinned program and in every row, IS THE sha256 OF THE DUMP (.gsa) THAT YtdpdfopmmhpfmaaProg.lean LOADS. Nothing in Lean hashes anything: it is a label: what it is worth is what the hold of that sum in a sandbox is worth. -/
noncomputable def Try.pinned : Pinned := { name := "ytdpdfopmmhpfmaa", sum := "739b81771189c79673619b7f916d436b96043ff4a2f2d1f52bc34d1a6fe9b090", checked := Try.checked }
namespace Rows
def none {H : Type} : Left H := { results := [], args := [] }

/-- 'heddlelaw3.ShapeCounts': WHATEVER THE INPUT: true; the input reads as it did. -/
def shapeCountsSpec : ChangeSpec := { name := "shapeCounts", fn := fun _ => fun
  | [d1, d2] => { results := [.lit (.bool true)], args := [d1, d2] }
  | _ => none }
def shapeCountsRow : OpenClaim := { program := "ytdpdfopmmhpfmaa", sum := "739b81771189c79673619b7f916d436b96043ff4a2f2d1f52bc34d1a6fe9b090", func := "heddle/heddlelaw3.ShapeCounts", spec := "shapeCounts", apart := false }
def ShapeCountsSaid : Prop := shapeCountsRow.holds Try.pinned (OpenSpec.ofChange shapeCountsSpec)

/-- ITS FALSE NEIGHBOUR: 'it returns false'. Refute it at one input. -/
def shapeCountsWrong : ChangeSpec := { name := "shapeCounts", fn := fun _ => fun
  | [d1, d2] => { results := [.lit (.bool false)], args := [d1, d2] }
  | _ => none }
def ShapeCountsWrongFalsely : Prop := shapeCountsRow.holds Try.pinned (OpenSpec.ofChange shapeCountsWrong)

/-- 'heddlelaw3.ShapeEnds': WHATEVER THE INPUT: true; the input reads as it did. -/
def shapeEndsSpec : ChangeSpec := { name := "shapeEnds", fn := fun _ => fun
  | [d1, d2, d3] => { results := [.lit (.bool true)], args := [d1, d2, d3] }
  | _ => none }
def shapeEndsRow : OpenClaim := { program := "ytdpdfopmmhpfmaa", sum := "739b81771189c79673619b7f916d436b96043ff4a2f2d1f52bc34d1a6fe9b090", func := "heddle/heddlelaw3.ShapeEnds", spec := "shapeEnds", apart := false }
def ShapeEndsSaid : Prop := shapeEndsRow.holds Try.pinned (OpenSpec.ofChange shapeEndsSpec)

/-- ITS FALSE NEIGHBOUR: 'it returns false'. Refute it at one input. -/
def shapeEndsWrong : ChangeSpec := { name := "shapeEnds", fn := fun _ => fun
  | [d1, d2, d3] => { results := [.lit (.bool false)], args := [d1, d2, d3] }
  | _ => none }
def ShapeEndsWrongFalsely : Prop := shapeEndsRow.holds Try.pinned (OpenSpec.ofChange shapeEndsWrong)

/-- 'heddlelaw3.ShapePlaces': WHATEVER THE INPUT: true; the input reads as it did. -/
def shapePlacesSpec : ChangeSpec := { name := "shapePlaces", fn := fun _ => fun
  | [d1, d2, d3, d4] => { results := [.lit (.bool true)], args := [d1, d2, d3, d4] }
  | _ => none }
def shapePlacesRow : OpenClaim := { program := "ytdpdfopmmhpfmaa", sum := "739b81771189c79673619b7f916d436b96043ff4a2f2d1f52bc34d1a6fe9b090", func := "heddle/heddlelaw3.ShapePlaces", spec := "shapePlaces", apart := false }
def ShapePlacesSaid : Prop := shapePlacesRow.holds Try.pinned (OpenSpec.ofChange shapePlacesSpec)

/-- ITS FALSE NEIGHBOUR: 'it returns false'. Refute it at one input. -/
def shapePlacesWrong : ChangeSpec := { name := "shapePlaces", fn := fun _ => fun
  | [d1, d2, d3, d4] => { results := [.lit (.bool false)], args := [d1, d2, d3, d4] }
  | _ => none }
def ShapePlacesWrongFalsely : Prop := shapePlacesRow.holds Try.pinned (OpenSpec.ofChange shapePlacesWrong)

/-- 'heddlelaw3.ShapeSlides': WHATEVER THE INPUT: true; the input reads as it did. -/
def shapeSlidesSpec : ChangeSpec := { name := "shapeSlides", fn := fun _ => fun
  | [d1, d2, d3] => { results := [.lit (.bool true)], args := [d1, d2, d3] }
  | _ => none }
def shapeSlidesRow : OpenClaim := { program := "ytdpdfopmmhpfmaa", sum := "739b81771189c79673619b7f916d436b96043ff4a2f2d1f52bc34d1a6fe9b090", func := "heddle/heddlelaw3.ShapeSlides", spec := "shapeSlides", apart := false }
def ShapeSlidesSaid : Prop := shapeSlidesRow.holds Try.pinned (OpenSpec.ofChange shapeSlidesSpec)

/-- ITS FALSE NEIGHBOUR: 'it returns false'. Refute it at one input. -/
def shapeSlidesWrong : ChangeSpec := { name := "shapeSlides", fn := fun _ => fun
  | [d1, d2, d3] => { results := [.lit (.bool false)], args := [d1, d2, d3] }
  | _ => none }
def ShapeSlidesWrongFalsely : Prop := shapeSlidesRow.holds Try.pinned (OpenSpec.ofChange shapeSlidesWrong)

/-- 'heddlelaw3.ShapeChecks': WHATEVER THE INPUT: true; the input reads as it did. -/
def shapeChecksSpec : ChangeSpec := { name := "shapeChecks", fn := fun _ => fun
  | [d1, d2] => { results := [.lit (.bool true)], args := [d1, d2] }
  | _ => none }
def shapeChecksRow : OpenClaim := { program := "ytdpdfopmmhpfmaa", sum := "739b81771189c79673619b7f916d436b96043ff4a2f2d1f52bc34d1a6fe9b090", func := "heddle/heddlelaw3.ShapeChecks", spec := "shapeChecks", apart := false }
def ShapeChecksSaid : Prop := shapeChecksRow.holds Try.pinned (OpenSpec.ofChange shapeChecksSpec)

/-- ITS FALSE NEIGHBOUR: 'it returns false'. Refute it at one input. -/
def shapeChecksWrong : ChangeSpec := { name := "shapeChecks", fn := fun _ => fun
  | [d1, d2] => { results := [.lit (.bool false)], args := [d1, d2] }
  | _ => none }
def ShapeChecksWrongFalsely : Prop := shapeChecksRow.holds Try.pinned (OpenSpec.ofChange shapeChecksWrong)

/-- 'heddlelaw3.ShapeScript': WHATEVER THE INPUT: true; the input reads as it did. -/
def shapeScriptSpec : ChangeSpec := { name := "shapeScript", fn := fun _ => fun
  | [d] => { results := [.lit (.bool true)], args := [d] }
  | _ => none }
def shapeScriptRow : OpenClaim := { program := "ytdpdfopmmhpfmaa", sum := "739b81771189c79673619b7f916d436b96043ff4a2f2d1f52bc34d1a6fe9b090", func := "heddle/heddlelaw3.ShapeScript", spec := "shapeScript", apart := false }
def ShapeScriptSaid : Prop := shapeScriptRow.holds Try.pinned (OpenSpec.ofChange shapeScriptSpec)

/-- ITS FALSE NEIGHBOUR: 'it returns false'. Refute it at one input. -/
def shapeScriptWrong : ChangeSpec := { name := "shapeScript", fn := fun _ => fun
  | [d] => { results := [.lit (.bool false)], args := [d] }
  | _ => none }
def ShapeScriptWrongFalsely : Prop := shapeScriptRow.holds Try.pinned (OpenSpec.ofChange shapeScriptWrong)

/- THE SECOND FORM. 'bulk': how many values and letters a reading holds, each counted each time it is reached (what is shared counts as often as it is met; a slice's spare places count too). A statement '..UptoSaid' is the law's where the arguments, and the package variables that the reading takes, are together of bulk at most 1048576: NARROWER than '..Said'. Prove '..Said' where nothing that the law and all that it calls make is longer than what came in: it says more and counts as full. Else prove '..UptoSaid'. A law counts once. -/
mutual
def uptoBulk {H : Type} : DataW H → Nat
  | .lit (.string bytes) => bytes.length + 1
  | .lit _ => 1
  | .nil => 1
  | .ptr d => uptoBulk d + 1
  | .slice elems spare => uptoBulkAll elems + uptoBulkAll spare + 1
  | .agg parts => uptoBulkAll parts + 1
  | .iface _ d => uptoBulk d + 1
  | .map entries => uptoBulkEntries entries + 1
  | .held _ => 1
def uptoBulkAll {H : Type} : List (DataW H) → Nat
  | [] => 0
  | d :: r => uptoBulk d + uptoBulkAll r
def uptoBulkEntries {H : Type} : List (Lit × DataW H) → Nat
  | [] => 0
  | x :: r => uptoBulkEntry x + uptoBulkEntries r
def uptoBulkEntry {H : Type} : Lit × DataW H → Nat
  | (.string bytes, d) => bytes.length + uptoBulk d + 1
  | (_, d) => uptoBulk d + 1
 end
def uptoSmall : (H : Type) → List (DataW H) → Bool := fun _ ds => decide (uptoBulkAll ds ≤ 1048576)
def OpenSpec.upto (s : _root_.Go.ChangeSpec) : _root_.Go.OpenSpec := { _root_.Go.OpenSpec.ofChange s with cond := some uptoSmall }

/-- 'heddlelaw3.ShapeCounts', WHERE WHAT IT READS IS OF BULK AT MOST 1048576: true; the input reads as it did. -/
def shapeCountsUptoRow : OpenClaim := { program := "ytdpdfopmmhpfmaa", sum := "739b81771189c79673619b7f916d436b96043ff4a2f2d1f52bc34d1a6fe9b090", func := "heddle/heddlelaw3.ShapeCounts", spec := "shapeCounts", apart := false, narrowed := true }
def ShapeCountsUptoSaid : Prop := shapeCountsUptoRow.holds Try.pinned (OpenSpec.upto shapeCountsSpec)

/-- 'heddlelaw3.ShapeEnds', WHERE WHAT IT READS IS OF BULK AT MOST 1048576: true; the input reads as it did. -/
def shapeEndsUptoRow : OpenClaim := { program := "ytdpdfopmmhpfmaa", sum := "739b81771189c79673619b7f916d436b96043ff4a2f2d1f52bc34d1a6fe9b090", func := "heddle/heddlelaw3.ShapeEnds", spec := "shapeEnds", apart := false, narrowed := true }
def ShapeEndsUptoSaid : Prop := shapeEndsUptoRow.holds Try.pinned (OpenSpec.upto shapeEndsSpec)

/-- 'heddlelaw3.ShapePlaces', WHERE WHAT IT READS IS OF BULK AT MOST 1048576: true; the input reads as it did. -/
def shapePlacesUptoRow : OpenClaim := { program := "ytdpdfopmmhpfmaa", sum := "739b81771189c79673619b7f916d436b96043ff4a2f2d1f52bc34d1a6fe9b090", func := "heddle/heddlelaw3.ShapePlaces", spec := "shapePlaces", apart := false, narrowed := true }
def ShapePlacesUptoSaid : Prop := shapePlacesUptoRow.holds Try.pinned (OpenSpec.upto shapePlacesSpec)

/-- 'heddlelaw3.ShapeSlides', WHERE WHAT IT READS IS OF BULK AT MOST 1048576: true; the input reads as it did. -/
def shapeSlidesUptoRow : OpenClaim := { program := "ytdpdfopmmhpfmaa", sum := "739b81771189c79673619b7f916d436b96043ff4a2f2d1f52bc34d1a6fe9b090", func := "heddle/heddlelaw3.ShapeSlides", spec := "shapeSlides", apart := false, narrowed := true }
def ShapeSlidesUptoSaid : Prop := shapeSlidesUptoRow.holds Try.pinned (OpenSpec.upto shapeSlidesSpec)

/-- 'heddlelaw3.ShapeChecks', WHERE WHAT IT READS IS OF BULK AT MOST 1048576: true; the input reads as it did. -/
def shapeChecksUptoRow : OpenClaim := { program := "ytdpdfopmmhpfmaa", sum := "739b81771189c79673619b7f916d436b96043ff4a2f2d1f52bc34d1a6fe9b090", func := "heddle/heddlelaw3.ShapeChecks", spec := "shapeChecks", apart := false, narrowed := true }
def ShapeChecksUptoSaid : Prop := shapeChecksUptoRow.holds Try.pinned (OpenSpec.upto shapeChecksSpec)

/-- 'heddlelaw3.ShapeScript', WHERE WHAT IT READS IS OF BULK AT MOST 1048576: true; the input reads as it did. -/
def shapeScriptUptoRow : OpenClaim := { program := "ytdpdfopmmhpfmaa", sum := "739b81771189c79673619b7f916d436b96043ff4a2f2d1f52bc34d1a6fe9b090", func := "heddle/heddlelaw3.ShapeScript", spec := "shapeScript", apart := false, narrowed := true }
def ShapeScriptUptoSaid : Prop := shapeScriptUptoRow.holds Try.pinned (OpenSpec.upto shapeScriptSpec)

end Rows
end Go.Proofs.Ytdpdfopmmhpfmaa
