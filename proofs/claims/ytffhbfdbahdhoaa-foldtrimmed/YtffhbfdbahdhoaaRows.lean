/-
  No cell of these rows narrows 'for every input' (looked for: loops, veiled, ifaces, maps, wideKeys, modest, calm, conditions, laid).
  DERIVED. THE GIVEN ROWS OF THIS SEAT. 6 by the template 'for every input the law returns true; each argument reads behind the call as it read before'; 0 by the template 'total and deterministic' (their statements: YtffhbfdbahdhoaaTotals.lean).
  GIVEN WITH THE SEED: the statements are not yours to turn. If you find one false, say at which input.
  Laid BY PROGRAM, IN A SANDBOX (cutbox-rows.mjs): the forced cells as the released guide's own fill.sh prints them over the translation 12299f69a606ac1d… (all of the seat's roots in one cut). By AI agents, Wed Nov 11 2026. No macro, syntax, notation, axiom, sorry.
-/
import Derived.Test.YtffhbfdbahdhoaaChecked
import GoSem.Claim
import GoSem.ClaimJoined
import GoSem.ClaimMapViews
import Derived.JoinedTies
import Derived.KernelRfl
namespace Go.Proofs.Ytffhbfdbahdhoaa
/- THE CELL 'sum', in the pinned program and in every row, IS THE sha256 OF THE DUMP (.gsa) THAT YtffhbfdbahdhoaaProg.lean LOADS. Nothing in Lean hashes anything: it is a label: what it is worth is what the hold of that sum in a sandbox is worth. -/
noncomputable def Try.pinned : Pinned := { name := "ytffhbfdbahdhoaa", sum := "12299f69a606ac1d5aabab64c61f9782afddddc0f93772ef45e221ba6fc22e98", checked := Try.checked }
namespace Rows
def none {H : Type} : Left H := { results := [], args := [] }

/-- 'heddlelaw16.FoldBack': WHATEVER THE INPUT: true; the input reads as it did. -/
def foldBackSpec : ChangeSpec := { name := "foldBack", fn := fun _ => fun
  | [d1, d2] => { results := [.lit (.bool true)], args := [d1, d2] }
  | _ => none }
def foldBackRow : OpenClaim := { program := "ytffhbfdbahdhoaa", sum := "12299f69a606ac1d5aabab64c61f9782afddddc0f93772ef45e221ba6fc22e98", func := "heddle/heddlelaw16.FoldBack", spec := "foldBack", inPlace := ["math/bits.Add64"], unfollowed := true, recurses := true, named := ["math/bits.divideError", "math/bits.overflowError"], apart := false }
def FoldBackSaid : Prop := foldBackRow.holds Try.pinned (OpenSpec.ofChange foldBackSpec)

/-- ITS FALSE NEIGHBOUR: 'it returns false'. Refute it at one input. -/
def foldBackWrong : ChangeSpec := { name := "foldBack", fn := fun _ => fun
  | [d1, d2] => { results := [.lit (.bool false)], args := [d1, d2] }
  | _ => none }
def FoldBackWrongFalsely : Prop := foldBackRow.holds Try.pinned (OpenSpec.ofChange foldBackWrong)

/-- 'heddlelaw16.FoldTrimmed': WHATEVER THE INPUT: true; the input reads as it did. -/
def foldTrimmedSpec : ChangeSpec := { name := "foldTrimmed", fn := fun _ => fun
  | [d1, d2, d3, d4] => { results := [.lit (.bool true)], args := [d1, d2, d3, d4] }
  | _ => none }
def foldTrimmedRow : OpenClaim := { program := "ytffhbfdbahdhoaa", sum := "12299f69a606ac1d5aabab64c61f9782afddddc0f93772ef45e221ba6fc22e98", func := "heddle/heddlelaw16.FoldTrimmed", spec := "foldTrimmed", inPlace := ["math/bits.Add64"], unfollowed := true, recurses := true, named := ["math/bits.divideError", "math/bits.overflowError"], apart := false }
def FoldTrimmedSaid : Prop := foldTrimmedRow.holds Try.pinned (OpenSpec.ofChange foldTrimmedSpec)

/-- ITS FALSE NEIGHBOUR: 'it returns false'. Refute it at one input. -/
def foldTrimmedWrong : ChangeSpec := { name := "foldTrimmed", fn := fun _ => fun
  | [d1, d2, d3, d4] => { results := [.lit (.bool false)], args := [d1, d2, d3, d4] }
  | _ => none }
def FoldTrimmedWrongFalsely : Prop := foldTrimmedRow.holds Try.pinned (OpenSpec.ofChange foldTrimmedWrong)

/-- 'heddlelaw16.FoldRises': WHATEVER THE INPUT: true; the input reads as it did. -/
def foldRisesSpec : ChangeSpec := { name := "foldRises", fn := fun _ => fun
  | [d1, d2, d3] => { results := [.lit (.bool true)], args := [d1, d2, d3] }
  | _ => none }
def foldRisesRow : OpenClaim := { program := "ytffhbfdbahdhoaa", sum := "12299f69a606ac1d5aabab64c61f9782afddddc0f93772ef45e221ba6fc22e98", func := "heddle/heddlelaw16.FoldRises", spec := "foldRises", inPlace := ["math/bits.Add64"], unfollowed := true, recurses := true, named := ["math/bits.divideError", "math/bits.overflowError"], apart := false }
def FoldRisesSaid : Prop := foldRisesRow.holds Try.pinned (OpenSpec.ofChange foldRisesSpec)

/-- ITS FALSE NEIGHBOUR: 'it returns false'. Refute it at one input. -/
def foldRisesWrong : ChangeSpec := { name := "foldRises", fn := fun _ => fun
  | [d1, d2, d3] => { results := [.lit (.bool false)], args := [d1, d2, d3] }
  | _ => none }
def FoldRisesWrongFalsely : Prop := foldRisesRow.holds Try.pinned (OpenSpec.ofChange foldRisesWrong)

/-- 'heddlelaw16.FoldTells': WHATEVER THE INPUT: true; the input reads as it did. -/
def foldTellsSpec : ChangeSpec := { name := "foldTells", fn := fun _ => fun
  | [d1, d2] => { results := [.lit (.bool true)], args := [d1, d2] }
  | _ => none }
def foldTellsRow : OpenClaim := { program := "ytffhbfdbahdhoaa", sum := "12299f69a606ac1d5aabab64c61f9782afddddc0f93772ef45e221ba6fc22e98", func := "heddle/heddlelaw16.FoldTells", spec := "foldTells", inPlace := ["math/bits.Add64"], unfollowed := true, recurses := true, named := ["math/bits.divideError", "math/bits.overflowError"], apart := false }
def FoldTellsSaid : Prop := foldTellsRow.holds Try.pinned (OpenSpec.ofChange foldTellsSpec)

/-- ITS FALSE NEIGHBOUR: 'it returns false'. Refute it at one input. -/
def foldTellsWrong : ChangeSpec := { name := "foldTells", fn := fun _ => fun
  | [d1, d2] => { results := [.lit (.bool false)], args := [d1, d2] }
  | _ => none }
def FoldTellsWrongFalsely : Prop := foldTellsRow.holds Try.pinned (OpenSpec.ofChange foldTellsWrong)

/-- 'heddlelaw16.FoldTrims': WHATEVER THE INPUT: true; the input reads as it did. -/
def foldTrimsSpec : ChangeSpec := { name := "foldTrims", fn := fun _ => fun
  | [d1, d2] => { results := [.lit (.bool true)], args := [d1, d2] }
  | _ => none }
def foldTrimsRow : OpenClaim := { program := "ytffhbfdbahdhoaa", sum := "12299f69a606ac1d5aabab64c61f9782afddddc0f93772ef45e221ba6fc22e98", func := "heddle/heddlelaw16.FoldTrims", spec := "foldTrims", inPlace := ["math/bits.Add64"], unfollowed := true, recurses := true, named := ["math/bits.divideError", "math/bits.overflowError"], apart := false }
def FoldTrimsSaid : Prop := foldTrimsRow.holds Try.pinned (OpenSpec.ofChange foldTrimsSpec)

/-- ITS FALSE NEIGHBOUR: 'it returns false'. Refute it at one input. -/
def foldTrimsWrong : ChangeSpec := { name := "foldTrims", fn := fun _ => fun
  | [d1, d2] => { results := [.lit (.bool false)], args := [d1, d2] }
  | _ => none }
def FoldTrimsWrongFalsely : Prop := foldTrimsRow.holds Try.pinned (OpenSpec.ofChange foldTrimsWrong)

/-- 'heddlelaw16.FoldSays': WHATEVER THE INPUT: true; the input reads as it did. -/
def foldSaysSpec : ChangeSpec := { name := "foldSays", fn := fun _ => fun
  | [d1, d2] => { results := [.lit (.bool true)], args := [d1, d2] }
  | _ => none }
def foldSaysRow : OpenClaim := { program := "ytffhbfdbahdhoaa", sum := "12299f69a606ac1d5aabab64c61f9782afddddc0f93772ef45e221ba6fc22e98", func := "heddle/heddlelaw16.FoldSays", spec := "foldSays", inPlace := ["math/bits.Add64"], unfollowed := true, recurses := true, named := ["math/bits.divideError", "math/bits.overflowError"], apart := false }
def FoldSaysSaid : Prop := foldSaysRow.holds Try.pinned (OpenSpec.ofChange foldSaysSpec)

/-- ITS FALSE NEIGHBOUR: 'it returns false'. Refute it at one input. -/
def foldSaysWrong : ChangeSpec := { name := "foldSays", fn := fun _ => fun
  | [d1, d2] => { results := [.lit (.bool false)], args := [d1, d2] }
  | _ => none }
def FoldSaysWrongFalsely : Prop := foldSaysRow.holds Try.pinned (OpenSpec.ofChange foldSaysWrong)

/- THE SECOND FORM. 'bulk': how many values and letters a reading holds, each counted each time it is reached (what is shared counts as often as it is met; a slice's spare places count too). A statement '..UptoSaid' is the law's where the arguments, and the package variables that the reading takes, are together of bulk at most 1048576: NARROWER than '..Said'. Prove '..Said' where nothing that the law and all that it calls make is longer than what came in: it says more and counts as full. Else prove '..UptoSaid'. A law counts once. -/
mutual
def uptoBulk {H : Type} : DataW H → Nat
  | .lit (.string bytes) => bytes.length + 1
  | .lit _ => 1
  | .nil => 1
  | .ptr d => uptoBulk d + 1
  | .slice elems spare => uptoBulkAll elems + uptoBulkAll spare + 1
  | .agg parts => uptoBulkAll parts + 1
  | .iface _ d => uptoBulk d + 1
  | .map entries => uptoBulkEntries entries + 1
  | .held _ => 1
def uptoBulkAll {H : Type} : List (DataW H) → Nat
  | [] => 0
  | d :: r => uptoBulk d + uptoBulkAll r
def uptoBulkEntries {H : Type} : List (Lit × DataW H) → Nat
  | [] => 0
  | x :: r => uptoBulkEntry x + uptoBulkEntries r
def uptoBulkEntry {H : Type} : Lit × DataW H → Nat
  | (.string bytes, d) => bytes.length + uptoBulk d + 1
  | (_, d) => uptoBulk d + 1
 end
def uptoSmall : (H : Type) → List (DataW H) → Bool := fun _ ds => decide (uptoBulkAll ds ≤ 1048576)
def OpenSpec.upto (s : _root_.Go.ChangeSpec) : _root_.Go.OpenSpec := { _root_.Go.OpenSpec.ofChange s with cond := some uptoSmall }

/-- 'heddlelaw16.FoldBack', WHERE WHAT IT READS IS OF BULK AT MOST 1048576: true; the input reads as it did. -/
def foldBackUptoRow : OpenClaim := { program := "ytffhbfdbahdhoaa", sum := "12299f69a606ac1d5aabab64c61f9782afddddc0f93772ef45e221ba6fc22e98", func := "heddle/heddlelaw16.FoldBack", spec := "foldBack", inPlace := ["math/bits.Add64"], unfollowed := true, recurses := true, named := ["math/bits.divideError", "math/bits.overflowError"], apart := false, narrowed := true }
def FoldBackUptoSaid : Prop := foldBackUptoRow.holds Try.pinned (OpenSpec.upto foldBackSpec)

/-- 'heddlelaw16.FoldTrimmed', WHERE WHAT IT READS IS OF BULK AT MOST 1048576: true; the input reads as it did. -/
def foldTrimmedUptoRow : OpenClaim := { program := "ytffhbfdbahdhoaa", sum := "12299f69a606ac1d5aabab64c61f9782afddddc0f93772ef45e221ba6fc22e98", func := "heddle/heddlelaw16.FoldTrimmed", spec := "foldTrimmed", inPlace := ["math/bits.Add64"], unfollowed := true, recurses := true, named := ["math/bits.divideError", "math/bits.overflowError"], apart := false, narrowed := true }
def FoldTrimmedUptoSaid : Prop := foldTrimmedUptoRow.holds Try.pinned (OpenSpec.upto foldTrimmedSpec)

/-- 'heddlelaw16.FoldRises', WHERE WHAT IT READS IS OF BULK AT MOST 1048576: true; the input reads as it did. -/
def foldRisesUptoRow : OpenClaim := { program := "ytffhbfdbahdhoaa", sum := "12299f69a606ac1d5aabab64c61f9782afddddc0f93772ef45e221ba6fc22e98", func := "heddle/heddlelaw16.FoldRises", spec := "foldRises", inPlace := ["math/bits.Add64"], unfollowed := true, recurses := true, named := ["math/bits.divideError", "math/bits.overflowError"], apart := false, narrowed := true }
def FoldRisesUptoSaid : Prop := foldRisesUptoRow.holds Try.pinned (OpenSpec.upto foldRisesSpec)

/-- 'heddlelaw16.FoldTells', WHERE WHAT IT READS IS OF BULK AT MOST 1048576: true; the input reads as it did. -/
def foldTellsUptoRow : OpenClaim := { program := "ytffhbfdbahdhoaa", sum := "12299f69a606ac1d5aabab64c61f9782afddddc0f93772ef45e221ba6fc22e98", func := "heddle/heddlelaw16.FoldTells", spec := "foldTells", inPlace := ["math/bits.Add64"], unfollowed := true, recurses := true, named := ["math/bits.divideError", "math/bits.overflowError"], apart := false, narrowed := true }
def FoldTellsUptoSaid : Prop := foldTellsUptoRow.holds Try.pinned (OpenSpec.upto foldTellsSpec)

/-- 'heddlelaw16.FoldTrims', WHERE WHAT IT READS IS OF BULK AT MOST 1048576: true; the input reads as it did. -/
def foldTrimsUptoRow : OpenClaim := { program := "ytffhbfdbahdhoaa", sum := "12299f69a606ac1d5aabab64c61f9782afddddc0f93772ef45e221ba6fc22e98", func := "heddle/heddlelaw16.FoldTrims", spec := "foldTrims", inPlace := ["math/bits.Add64"], unfollowed := true, recurses := true, named := ["math/bits.divideError", "math/bits.overflowError"], apart := false, narrowed := true }
def FoldTrimsUptoSaid : Prop := foldTrimsUptoRow.holds Try.pinned (OpenSpec.upto foldTrimsSpec)

/-- 'heddlelaw16.FoldSays', WHERE WHAT IT READS IS OF BULK AT MOST 1048576: true; the input reads as it did. -/
def foldSaysUptoRow : OpenClaim := { program := "ytffhbfdbahdhoaa", sum := "12299f69a606ac1d5aabab64c61f9782afddddc0f93772ef45e221ba6fc22e98", func := "heddle/heddlelaw16.FoldSays", spec := "foldSays", inPlace := ["math/bits.Add64"], unfollowed := true, recurses := true, named := ["math/bits.divideError", "math/bits.overflowError"], apart := false, narrowed := true }
def FoldSaysUptoSaid : Prop := foldSaysUptoRow.holds Try.pinned (OpenSpec.upto foldSaysSpec)

end Rows
end Go.Proofs.Ytffhbfdbahdhoaa
