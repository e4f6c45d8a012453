/-
  DERIVED. GIVEN WITH THE SEED: THE CARDS: each row of YtpinmfhabbcflabDoorRows.lean that lists a variable, with what it lists TIED to the program's text (the seventh form; the later family's looks); each row that meets fmt, with fmt's text TOLD by the authors' own Lean function (tested against real Go, not proved from fmt's source: count such statements apart). THE CARD IS WHAT COUNTS. Prove the row's statement (the work); the ties are given (YtpinmfhabbcflabDoorTie.lean); close each card by the builder's one call (the guide's Derived/Test/ToyasCard.lean, 'card_holds'). Laid BY PROGRAM, IN A SANDBOX (cutbox-door.mjs). By AI agents, Wed Nov 11 2026. No macro, syntax, notation, axiom, sorry.
-/
import Derived.Test.YtpinmfhabbcflabDoorRows
import GoSem.ClaimSeven
namespace Go.Proofs.YtpinmfhabbcflabDoor
namespace Rows

/-- THE TIED CARD OF 'heddlelaw10.DotRows'. -/
def dotRowsCard : Claim7 := { stood := { row := dotRowsRow, standIns := [], harness := (true, "6f9e84cf1f181974313f3dcc4a74d9d8f7071fd6ee69bd29b676d78f55c0adc5"), looks := false }, kinds := [], alts := [], laidByText := true, laidKinds := [.data], laidTests := true, laidLooks := .later }
def DotRowsCardSaid : Prop := Claim7.holds Tryd.pinned (.plain (OpenSpec.ofChange dotRowsSpec)) dotRowsCard

/-- THE TIED CARD OF 'heddlelaw10.DotScript'. -/
def dotScriptCard : Claim7 := { stood := { row := dotScriptRow, standIns := [], harness := (true, "6f9e84cf1f181974313f3dcc4a74d9d8f7071fd6ee69bd29b676d78f55c0adc5"), looks := false }, kinds := [], alts := [], laidByText := true, laidKinds := [.data], laidTests := true, laidLooks := .later }
def DotScriptCardSaid : Prop := Claim7.holds Tryd.pinned (.plain (OpenSpec.ofChange dotScriptSpec)) dotScriptCard

/-- THE SECOND FORM's CARD OF 'heddlelaw10.DotRows'. -/
def dotRowsUptoCard : Claim7 := { stood := { row := dotRowsUptoRow, standIns := [], harness := (true, "6f9e84cf1f181974313f3dcc4a74d9d8f7071fd6ee69bd29b676d78f55c0adc5"), looks := false }, kinds := [], alts := [], laidByText := true, laidKinds := [.data], laidTests := true, laidLooks := .later }
def DotRowsUptoCardSaid : Prop := Claim7.holds Tryd.pinned (.plain (OpenSpec.upto dotRowsSpec)) dotRowsUptoCard

/-- THE SECOND FORM's CARD OF 'heddlelaw10.DotScript'. -/
def dotScriptUptoCard : Claim7 := { stood := { row := dotScriptUptoRow, standIns := [], harness := (true, "6f9e84cf1f181974313f3dcc4a74d9d8f7071fd6ee69bd29b676d78f55c0adc5"), looks := false }, kinds := [], alts := [], laidByText := true, laidKinds := [.data], laidTests := true, laidLooks := .later }
def DotScriptUptoCardSaid : Prop := Claim7.holds Tryd.pinned (.plain (OpenSpec.upto dotScriptSpec)) dotScriptUptoCard
end Rows
end Go.Proofs.YtpinmfhabbcflabDoor
