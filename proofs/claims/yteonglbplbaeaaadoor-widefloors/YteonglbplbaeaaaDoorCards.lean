/-
  DERIVED. GIVEN WITH THE SEED: THE CARDS: each row of YteonglbplbaeaaaDoorRows.lean that lists a variable, with what it lists TIED to the program's text (the seventh form; the later family's looks); each row that meets fmt, with fmt's text TOLD by the authors' own Lean function (tested against real Go, not proved from fmt's source: count such statements apart). THE CARD IS WHAT COUNTS. Prove the row's statement (the work); the ties are given (YteonglbplbaeaaaDoorTie.lean); close each card by the builder's one call (the guide's Derived/Test/ToyasCard.lean, 'card_holds'). Laid BY PROGRAM, IN A SANDBOX (cutbox-door.mjs). By AI agents, Wed Nov 11 2026. No macro, syntax, notation, axiom, sorry.
-/
import Derived.Test.YteonglbplbaeaaaDoorRows
import GoSem.ClaimSeven
namespace Go.Proofs.YteonglbplbaeaaaDoor
namespace Rows

/-- THE TIED CARD OF 'heddlelaw1.WideRound'. -/
def wideRoundCard : Claim7 := { stood := { row := wideRoundRow, standIns := [], harness := (true, "de2591c68fdecc37784254f7a93eef436adf261e64f4cae2e80ebcc9829b019a"), looks := false }, kinds := [], alts := [], laidByText := true, laidKinds := [.data, .data, .data, .data], laidTests := true, laidLooks := .later }
def WideRoundCardSaid : Prop := Claim7.holds Tryd.pinned (.plain (OpenSpec.ofChange wideRoundSpec)) wideRoundCard

/-- THE TIED CARD OF 'heddlelaw1.WideOrder'. -/
def wideOrderCard : Claim7 := { stood := { row := wideOrderRow, standIns := [], harness := (true, "de2591c68fdecc37784254f7a93eef436adf261e64f4cae2e80ebcc9829b019a"), looks := false }, kinds := [], alts := [], laidByText := true, laidKinds := [.data, .data, .data, .data], laidTests := true, laidLooks := .later }
def WideOrderCardSaid : Prop := Claim7.holds Tryd.pinned (.plain (OpenSpec.ofChange wideOrderSpec)) wideOrderCard

/-- THE TIED CARD OF 'heddlelaw1.WideRing'. -/
def wideRingCard : Claim7 := { stood := { row := wideRingRow, standIns := [], harness := (true, "de2591c68fdecc37784254f7a93eef436adf261e64f4cae2e80ebcc9829b019a"), looks := false }, kinds := [], alts := [], laidByText := true, laidKinds := [.data, .data, .data, .data], laidTests := true, laidLooks := .later }
def WideRingCardSaid : Prop := Claim7.holds Tryd.pinned (.plain (OpenSpec.ofChange wideRingSpec)) wideRingCard

/-- THE TIED CARD OF 'heddlelaw1.WideFloors'. -/
def wideFloorsCard : Claim7 := { stood := { row := wideFloorsRow, standIns := [], harness := (true, "de2591c68fdecc37784254f7a93eef436adf261e64f4cae2e80ebcc9829b019a"), looks := false }, kinds := [], alts := [], laidByText := true, laidKinds := [.data, .data, .data, .data], laidTests := true, laidLooks := .later }
def WideFloorsCardSaid : Prop := Claim7.holds Tryd.pinned (.plain (OpenSpec.ofChange wideFloorsSpec)) wideFloorsCard

/-- THE TIED CARD OF 'heddlelaw1.WideDivides'. -/
def wideDividesCard : Claim7 := { stood := { row := wideDividesRow, standIns := [], harness := (true, "de2591c68fdecc37784254f7a93eef436adf261e64f4cae2e80ebcc9829b019a"), looks := false }, kinds := [], alts := [], laidByText := true, laidKinds := [.data, .data, .data, .data], laidTests := true, laidLooks := .later }
def WideDividesCardSaid : Prop := Claim7.holds Tryd.pinned (.plain (OpenSpec.ofChange wideDividesSpec)) wideDividesCard

/-- THE TIED CARD OF 'heddlelaw1.WideTexts'. -/
def wideTextsCard : Claim7 := { stood := { row := wideTextsRow, standIns := [], harness := (true, "de2591c68fdecc37784254f7a93eef436adf261e64f4cae2e80ebcc9829b019a"), looks := false }, kinds := [], alts := [], laidByText := true, laidKinds := [.data, .data, .data, .data], laidTests := true, laidLooks := .later }
def WideTextsCardSaid : Prop := Claim7.holds Tryd.pinned (.plain (OpenSpec.ofChange wideTextsSpec)) wideTextsCard

/-- THE SECOND FORM's CARD OF 'heddlelaw1.WideRound'. -/
def wideRoundUptoCard : Claim7 := { stood := { row := wideRoundUptoRow, standIns := [], harness := (true, "de2591c68fdecc37784254f7a93eef436adf261e64f4cae2e80ebcc9829b019a"), looks := false }, kinds := [], alts := [], laidByText := true, laidKinds := [.data, .data, .data, .data], laidTests := true, laidLooks := .later }
def WideRoundUptoCardSaid : Prop := Claim7.holds Tryd.pinned (.plain (OpenSpec.upto wideRoundSpec)) wideRoundUptoCard

/-- THE SECOND FORM's CARD OF 'heddlelaw1.WideOrder'. -/
def wideOrderUptoCard : Claim7 := { stood := { row := wideOrderUptoRow, standIns := [], harness := (true, "de2591c68fdecc37784254f7a93eef436adf261e64f4cae2e80ebcc9829b019a"), looks := false }, kinds := [], alts := [], laidByText := true, laidKinds := [.data, .data, .data, .data], laidTests := true, laidLooks := .later }
def WideOrderUptoCardSaid : Prop := Claim7.holds Tryd.pinned (.plain (OpenSpec.upto wideOrderSpec)) wideOrderUptoCard

/-- THE SECOND FORM's CARD OF 'heddlelaw1.WideRing'. -/
def wideRingUptoCard : Claim7 := { stood := { row := wideRingUptoRow, standIns := [], harness := (true, "de2591c68fdecc37784254f7a93eef436adf261e64f4cae2e80ebcc9829b019a"), looks := false }, kinds := [], alts := [], laidByText := true, laidKinds := [.data, .data, .data, .data], laidTests := true, laidLooks := .later }
def WideRingUptoCardSaid : Prop := Claim7.holds Tryd.pinned (.plain (OpenSpec.upto wideRingSpec)) wideRingUptoCard

/-- THE SECOND FORM's CARD OF 'heddlelaw1.WideFloors'. -/
def wideFloorsUptoCard : Claim7 := { stood := { row := wideFloorsUptoRow, standIns := [], harness := (true, "de2591c68fdecc37784254f7a93eef436adf261e64f4cae2e80ebcc9829b019a"), looks := false }, kinds := [], alts := [], laidByText := true, laidKinds := [.data, .data, .data, .data], laidTests := true, laidLooks := .later }
def WideFloorsUptoCardSaid : Prop := Claim7.holds Tryd.pinned (.plain (OpenSpec.upto wideFloorsSpec)) wideFloorsUptoCard

/-- THE SECOND FORM's CARD OF 'heddlelaw1.WideDivides'. -/
def wideDividesUptoCard : Claim7 := { stood := { row := wideDividesUptoRow, standIns := [], harness := (true, "de2591c68fdecc37784254f7a93eef436adf261e64f4cae2e80ebcc9829b019a"), looks := false }, kinds := [], alts := [], laidByText := true, laidKinds := [.data, .data, .data, .data], laidTests := true, laidLooks := .later }
def WideDividesUptoCardSaid : Prop := Claim7.holds Tryd.pinned (.plain (OpenSpec.upto wideDividesSpec)) wideDividesUptoCard

/-- THE SECOND FORM's CARD OF 'heddlelaw1.WideTexts'. -/
def wideTextsUptoCard : Claim7 := { stood := { row := wideTextsUptoRow, standIns := [], harness := (true, "de2591c68fdecc37784254f7a93eef436adf261e64f4cae2e80ebcc9829b019a"), looks := false }, kinds := [], alts := [], laidByText := true, laidKinds := [.data, .data, .data, .data], laidTests := true, laidLooks := .later }
def WideTextsUptoCardSaid : Prop := Claim7.holds Tryd.pinned (.plain (OpenSpec.upto wideTextsSpec)) wideTextsUptoCard
end Rows
end Go.Proofs.YteonglbplbaeaaaDoor
