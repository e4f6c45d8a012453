/-
  DERIVED. GIVEN WITH THE SEED: THE CARDS: each row of YtgciefmjbaphiaaDoorRows.lean that lists a variable, with what it lists TIED to the program's text (the seventh form; the later family's looks); each row that meets fmt, with fmt's text TOLD by the authors' own Lean function (tested against real Go, not proved from fmt's source: count such statements apart). THE CARD IS WHAT COUNTS. Prove the row's statement (the work); the ties are given (YtgciefmjbaphiaaDoorTie.lean); close each card by the builder's one call (the guide's Derived/Test/ToyasCard.lean, 'card_holds'). Laid BY PROGRAM, IN A SANDBOX (cutbox-door.mjs). By AI agents, Wed Nov 11 2026. No macro, syntax, notation, axiom, sorry.
-/
import Derived.Test.YtgciefmjbaphiaaDoorRows
import GoSem.ClaimSeven
namespace Go.Proofs.YtgciefmjbaphiaaDoor
namespace Rows

/-- THE TIED CARD OF 'heddlelaw10.DotBounds'. -/
def dotBoundsCard : Claim7 := { stood := { row := dotBoundsRow, standIns := [], harness := (true, "abae4af064309677b5f53dfe2e00a456061c89ebbe59e3d6e1694f2b8bedc1e4"), looks := false }, kinds := [], alts := [], laidByText := true, laidKinds := [.data], laidTests := true, laidLooks := .later }
def DotBoundsCardSaid : Prop := Claim7.holds Tryd.pinned (.plain (OpenSpec.ofChange dotBoundsSpec)) dotBoundsCard

/-- THE TIED CARD OF 'heddlelaw10.DotCounts'. -/
def dotCountsCard : Claim7 := { stood := { row := dotCountsRow, standIns := [], harness := (true, "abae4af064309677b5f53dfe2e00a456061c89ebbe59e3d6e1694f2b8bedc1e4"), looks := false }, kinds := [], alts := [], laidByText := true, laidKinds := [.data], laidTests := true, laidLooks := .later }
def DotCountsCardSaid : Prop := Claim7.holds Tryd.pinned (.plain (OpenSpec.ofChange dotCountsSpec)) dotCountsCard

/-- THE TIED CARD OF 'heddlelaw10.DotParts'. -/
def dotPartsCard : Claim7 := { stood := { row := dotPartsRow, standIns := [], harness := (true, "abae4af064309677b5f53dfe2e00a456061c89ebbe59e3d6e1694f2b8bedc1e4"), looks := false }, kinds := [], alts := [], laidByText := true, laidKinds := [.data], laidTests := true, laidLooks := .later }
def DotPartsCardSaid : Prop := Claim7.holds Tryd.pinned (.plain (OpenSpec.ofChange dotPartsSpec)) dotPartsCard

/-- THE TIED CARD OF 'heddlelaw10.DotSums'. -/
def dotSumsCard : Claim7 := { stood := { row := dotSumsRow, standIns := [], harness := (true, "abae4af064309677b5f53dfe2e00a456061c89ebbe59e3d6e1694f2b8bedc1e4"), looks := false }, kinds := [], alts := [], laidByText := true, laidKinds := [.data], laidTests := true, laidLooks := .later }
def DotSumsCardSaid : Prop := Claim7.holds Tryd.pinned (.plain (OpenSpec.ofChange dotSumsSpec)) dotSumsCard

/-- THE TIED CARD OF 'heddlelaw10.DotFresh'. -/
def dotFreshCard : Claim7 := { stood := { row := dotFreshRow, standIns := [], harness := (true, "abae4af064309677b5f53dfe2e00a456061c89ebbe59e3d6e1694f2b8bedc1e4"), looks := false }, kinds := [], alts := [], laidByText := true, laidKinds := [.data], laidTests := true, laidLooks := .later }
def DotFreshCardSaid : Prop := Claim7.holds Tryd.pinned (.plain (OpenSpec.ofChange dotFreshSpec)) dotFreshCard

/-- THE TIED CARD OF 'heddlelaw10.DotNumbers'. -/
def dotNumbersCard : Claim7 := { stood := { row := dotNumbersRow, standIns := [], harness := (true, "abae4af064309677b5f53dfe2e00a456061c89ebbe59e3d6e1694f2b8bedc1e4"), looks := false }, kinds := [], alts := [], laidByText := true, laidKinds := [.data], laidTests := true, laidLooks := .later }
def DotNumbersCardSaid : Prop := Claim7.holds Tryd.pinned (.plain (OpenSpec.ofChange dotNumbersSpec)) dotNumbersCard

/-- THE SECOND FORM's CARD OF 'heddlelaw10.DotBounds'. -/
def dotBoundsUptoCard : Claim7 := { stood := { row := dotBoundsUptoRow, standIns := [], harness := (true, "abae4af064309677b5f53dfe2e00a456061c89ebbe59e3d6e1694f2b8bedc1e4"), looks := false }, kinds := [], alts := [], laidByText := true, laidKinds := [.data], laidTests := true, laidLooks := .later }
def DotBoundsUptoCardSaid : Prop := Claim7.holds Tryd.pinned (.plain (OpenSpec.upto dotBoundsSpec)) dotBoundsUptoCard

/-- THE SECOND FORM's CARD OF 'heddlelaw10.DotCounts'. -/
def dotCountsUptoCard : Claim7 := { stood := { row := dotCountsUptoRow, standIns := [], harness := (true, "abae4af064309677b5f53dfe2e00a456061c89ebbe59e3d6e1694f2b8bedc1e4"), looks := false }, kinds := [], alts := [], laidByText := true, laidKinds := [.data], laidTests := true, laidLooks := .later }
def DotCountsUptoCardSaid : Prop := Claim7.holds Tryd.pinned (.plain (OpenSpec.upto dotCountsSpec)) dotCountsUptoCard

/-- THE SECOND FORM's CARD OF 'heddlelaw10.DotParts'. -/
def dotPartsUptoCard : Claim7 := { stood := { row := dotPartsUptoRow, standIns := [], harness := (true, "abae4af064309677b5f53dfe2e00a456061c89ebbe59e3d6e1694f2b8bedc1e4"), looks := false }, kinds := [], alts := [], laidByText := true, laidKinds := [.data], laidTests := true, laidLooks := .later }
def DotPartsUptoCardSaid : Prop := Claim7.holds Tryd.pinned (.plain (OpenSpec.upto dotPartsSpec)) dotPartsUptoCard

/-- THE SECOND FORM's CARD OF 'heddlelaw10.DotSums'. -/
def dotSumsUptoCard : Claim7 := { stood := { row := dotSumsUptoRow, standIns := [], harness := (true, "abae4af064309677b5f53dfe2e00a456061c89ebbe59e3d6e1694f2b8bedc1e4"), looks := false }, kinds := [], alts := [], laidByText := true, laidKinds := [.data], laidTests := true, laidLooks := .later }
def DotSumsUptoCardSaid : Prop := Claim7.holds Tryd.pinned (.plain (OpenSpec.upto dotSumsSpec)) dotSumsUptoCard

/-- THE SECOND FORM's CARD OF 'heddlelaw10.DotFresh'. -/
def dotFreshUptoCard : Claim7 := { stood := { row := dotFreshUptoRow, standIns := [], harness := (true, "abae4af064309677b5f53dfe2e00a456061c89ebbe59e3d6e1694f2b8bedc1e4"), looks := false }, kinds := [], alts := [], laidByText := true, laidKinds := [.data], laidTests := true, laidLooks := .later }
def DotFreshUptoCardSaid : Prop := Claim7.holds Tryd.pinned (.plain (OpenSpec.upto dotFreshSpec)) dotFreshUptoCard

/-- THE SECOND FORM's CARD OF 'heddlelaw10.DotNumbers'. -/
def dotNumbersUptoCard : Claim7 := { stood := { row := dotNumbersUptoRow, standIns := [], harness := (true, "abae4af064309677b5f53dfe2e00a456061c89ebbe59e3d6e1694f2b8bedc1e4"), looks := false }, kinds := [], alts := [], laidByText := true, laidKinds := [.data], laidTests := true, laidLooks := .later }
def DotNumbersUptoCardSaid : Prop := Claim7.holds Tryd.pinned (.plain (OpenSpec.upto dotNumbersSpec)) dotNumbersUptoCard
end Rows
end Go.Proofs.YtgciefmjbaphiaaDoor
