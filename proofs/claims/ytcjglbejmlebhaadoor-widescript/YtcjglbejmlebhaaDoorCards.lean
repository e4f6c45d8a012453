/-
  DERIVED. GIVEN WITH THE SEED: THE CARDS: each row of YtcjglbejmlebhaaDoorRows.lean that lists a variable, with what it lists TIED to the program's text (the seventh form; the later family's looks); each row that meets fmt, with fmt's text TOLD by the authors' own Lean function (tested against real Go, not proved from fmt's source: count such statements apart). THE CARD IS WHAT COUNTS. Prove the row's statement (the work); the ties are given (YtcjglbejmlebhaaDoorTie.lean); close each card by the builder's one call (the guide's Derived/Test/ToyasCard.lean, 'card_holds'). Laid BY PROGRAM, IN A SANDBOX (cutbox-door.mjs). By AI agents, Wed Nov 11 2026. No macro, syntax, notation, axiom, sorry.
-/
import Derived.Test.YtcjglbejmlebhaaDoorRows
import GoSem.ClaimSeven
namespace Go.Proofs.YtcjglbejmlebhaaDoor
namespace Rows

/-- THE TIED CARD OF 'heddlelaw1.WideDivides'. -/
def wideDividesCard : Claim7 := { stood := { row := wideDividesRow, standIns := [], harness := (true, "0a654ba760008e9c8b6d4a1caf463da957b9d696a4bd628d4567686eb1b8ab41"), looks := false }, kinds := [], alts := [], laidByText := true, laidKinds := [.data, .data, .data, .data], laidTests := true, laidLooks := .later }
def WideDividesCardSaid : Prop := Claim7.holds Tryd.pinned (.plain (OpenSpec.ofChange wideDividesSpec)) wideDividesCard

/-- THE TIED CARD OF 'heddlelaw1.WideTexts'. -/
def wideTextsCard : Claim7 := { stood := { row := wideTextsRow, standIns := [], harness := (true, "0a654ba760008e9c8b6d4a1caf463da957b9d696a4bd628d4567686eb1b8ab41"), looks := false }, kinds := [], alts := [], laidByText := true, laidKinds := [.data, .data, .data, .data], laidTests := true, laidLooks := .later }
def WideTextsCardSaid : Prop := Claim7.holds Tryd.pinned (.plain (OpenSpec.ofChange wideTextsSpec)) wideTextsCard

/-- THE TIED CARD OF 'heddlelaw1.WideSums'. -/
def wideSumsCard : Claim7 := { stood := { row := wideSumsRow, standIns := [], harness := (true, "0a654ba760008e9c8b6d4a1caf463da957b9d696a4bd628d4567686eb1b8ab41"), looks := false }, kinds := [], alts := [], laidByText := true, laidKinds := [.data, .data, .data, .data], laidTests := true, laidLooks := .later }
def WideSumsCardSaid : Prop := Claim7.holds Tryd.pinned (.plain (OpenSpec.ofChange wideSumsSpec)) wideSumsCard

/-- THE TIED CARD OF 'heddlelaw1.WideScript'. -/
def wideScriptCard : Claim7 := { stood := { row := wideScriptRow, standIns := [], harness := (true, "0a654ba760008e9c8b6d4a1caf463da957b9d696a4bd628d4567686eb1b8ab41"), looks := false }, kinds := [], alts := [], laidByText := true, laidKinds := [.data, .data, .data, .data], laidTests := true, laidLooks := .later }
def WideScriptCardSaid : Prop := Claim7.holds Tryd.pinned (.plain (OpenSpec.ofChange wideScriptSpec)) wideScriptCard

/-- THE SECOND FORM's CARD OF 'heddlelaw1.WideDivides'. -/
def wideDividesUptoCard : Claim7 := { stood := { row := wideDividesUptoRow, standIns := [], harness := (true, "0a654ba760008e9c8b6d4a1caf463da957b9d696a4bd628d4567686eb1b8ab41"), looks := false }, kinds := [], alts := [], laidByText := true, laidKinds := [.data, .data, .data, .data], laidTests := true, laidLooks := .later }
def WideDividesUptoCardSaid : Prop := Claim7.holds Tryd.pinned (.plain (OpenSpec.upto wideDividesSpec)) wideDividesUptoCard

/-- THE SECOND FORM's CARD OF 'heddlelaw1.WideTexts'. -/
def wideTextsUptoCard : Claim7 := { stood := { row := wideTextsUptoRow, standIns := [], harness := (true, "0a654ba760008e9c8b6d4a1caf463da957b9d696a4bd628d4567686eb1b8ab41"), looks := false }, kinds := [], alts := [], laidByText := true, laidKinds := [.data, .data, .data, .data], laidTests := true, laidLooks := .later }
def WideTextsUptoCardSaid : Prop := Claim7.holds Tryd.pinned (.plain (OpenSpec.upto wideTextsSpec)) wideTextsUptoCard

/-- THE SECOND FORM's CARD OF 'heddlelaw1.WideSums'. -/
def wideSumsUptoCard : Claim7 := { stood := { row := wideSumsUptoRow, standIns := [], harness := (true, "0a654ba760008e9c8b6d4a1caf463da957b9d696a4bd628d4567686eb1b8ab41"), looks := false }, kinds := [], alts := [], laidByText := true, laidKinds := [.data, .data, .data, .data], laidTests := true, laidLooks := .later }
def WideSumsUptoCardSaid : Prop := Claim7.holds Tryd.pinned (.plain (OpenSpec.upto wideSumsSpec)) wideSumsUptoCard

/-- THE SECOND FORM's CARD OF 'heddlelaw1.WideScript'. -/
def wideScriptUptoCard : Claim7 := { stood := { row := wideScriptUptoRow, standIns := [], harness := (true, "0a654ba760008e9c8b6d4a1caf463da957b9d696a4bd628d4567686eb1b8ab41"), looks := false }, kinds := [], alts := [], laidByText := true, laidKinds := [.data, .data, .data, .data], laidTests := true, laidLooks := .later }
def WideScriptUptoCardSaid : Prop := Claim7.holds Tryd.pinned (.plain (OpenSpec.upto wideScriptSpec)) wideScriptUptoCard
end Rows
end Go.Proofs.YtcjglbejmlebhaaDoor
