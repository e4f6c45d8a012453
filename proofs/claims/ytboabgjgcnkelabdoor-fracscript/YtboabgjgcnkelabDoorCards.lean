/-
  DERIVED. GIVEN WITH THE SEED: THE CARDS: each row of YtboabgjgcnkelabDoorRows.lean that lists a variable, with what it lists TIED to the program's text (the seventh form; the later family's looks); each row that meets fmt, with fmt's text TOLD by the authors' own Lean function (tested against real Go, not proved from fmt's source: count such statements apart). THE CARD IS WHAT COUNTS. Prove the row's statement (the work); the ties are given (YtboabgjgcnkelabDoorTie.lean); close each card by the builder's one call (the guide's Derived/Test/ToyasCard.lean, 'card_holds'). Laid BY PROGRAM, IN A SANDBOX (cutbox-door.mjs). By AI agents, Wed Nov 11 2026. No macro, syntax, notation, axiom, sorry.
-/
import Derived.Test.YtboabgjgcnkelabDoorRows
import GoSem.ClaimSeven
namespace Go.Proofs.YtboabgjgcnkelabDoor
namespace Rows

/-- THE TIED CARD OF 'heddlelaw4.FracRound'. -/
def fracRoundCard : Claim7 := { stood := { row := fracRoundRow, standIns := [], harness := (true, "af11435efa85533ad36466b14857f2f33cdcab499e937b479531529681b7dc6b"), looks := true }, kinds := [], alts := [], laidByText := true, laidKinds := [.data, .data, .data, .sentinel, .sentinel], laidTests := true, laidLooks := .later }
def FracRoundCardSaid : Prop := Claim7.holds Tryd.pinned (.plain (OpenSpec.ofChange fracRoundSpec)) fracRoundCard

/-- THE TIED CARD OF 'heddlelaw4.FracTexts'. -/
def fracTextsCard : Claim7 := { stood := { row := fracTextsRow, standIns := [], harness := (true, "af11435efa85533ad36466b14857f2f33cdcab499e937b479531529681b7dc6b"), looks := true }, kinds := [], alts := [], laidByText := true, laidKinds := [.data, .data, .data, .sentinel, .sentinel], laidTests := true, laidLooks := .later }
def FracTextsCardSaid : Prop := Claim7.holds Tryd.pinned (.plain (OpenSpec.ofChange fracTextsSpec)) fracTextsCard

/-- THE TIED CARD OF 'heddlelaw4.FracScript'. -/
def fracScriptCard : Claim7 := { stood := { row := fracScriptRow, standIns := [], harness := (true, "af11435efa85533ad36466b14857f2f33cdcab499e937b479531529681b7dc6b"), looks := true }, kinds := [], alts := [], laidByText := true, laidKinds := [.data, .data, .data, .sentinel, .sentinel], laidTests := true, laidLooks := .later }
def FracScriptCardSaid : Prop := Claim7.holds Tryd.pinned (.plain (OpenSpec.ofChange fracScriptSpec)) fracScriptCard

/-- THE SECOND FORM's CARD OF 'heddlelaw4.FracRound'. -/
def fracRoundUptoCard : Claim7 := { stood := { row := fracRoundUptoRow, standIns := [], harness := (true, "af11435efa85533ad36466b14857f2f33cdcab499e937b479531529681b7dc6b"), looks := true }, kinds := [], alts := [], laidByText := true, laidKinds := [.data, .data, .data, .sentinel, .sentinel], laidTests := true, laidLooks := .later }
def FracRoundUptoCardSaid : Prop := Claim7.holds Tryd.pinned (.plain (OpenSpec.upto fracRoundSpec)) fracRoundUptoCard

/-- THE SECOND FORM's CARD OF 'heddlelaw4.FracTexts'. -/
def fracTextsUptoCard : Claim7 := { stood := { row := fracTextsUptoRow, standIns := [], harness := (true, "af11435efa85533ad36466b14857f2f33cdcab499e937b479531529681b7dc6b"), looks := true }, kinds := [], alts := [], laidByText := true, laidKinds := [.data, .data, .data, .sentinel, .sentinel], laidTests := true, laidLooks := .later }
def FracTextsUptoCardSaid : Prop := Claim7.holds Tryd.pinned (.plain (OpenSpec.upto fracTextsSpec)) fracTextsUptoCard

/-- THE SECOND FORM's CARD OF 'heddlelaw4.FracScript'. -/
def fracScriptUptoCard : Claim7 := { stood := { row := fracScriptUptoRow, standIns := [], harness := (true, "af11435efa85533ad36466b14857f2f33cdcab499e937b479531529681b7dc6b"), looks := true }, kinds := [], alts := [], laidByText := true, laidKinds := [.data, .data, .data, .sentinel, .sentinel], laidTests := true, laidLooks := .later }
def FracScriptUptoCardSaid : Prop := Claim7.holds Tryd.pinned (.plain (OpenSpec.upto fracScriptSpec)) fracScriptUptoCard
end Rows
end Go.Proofs.YtboabgjgcnkelabDoor
