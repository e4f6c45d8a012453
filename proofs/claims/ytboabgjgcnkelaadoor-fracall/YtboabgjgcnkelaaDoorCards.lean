/-
  DERIVED. GIVEN WITH THE SEED: THE CARDS: each row of YtboabgjgcnkelaaDoorRows.lean that lists a variable, with what it lists TIED to the program's text (the seventh form; the later family's looks); each row that meets fmt, with fmt's text TOLD by the authors' own Lean function (tested against real Go, not proved from fmt's source: count such statements apart). THE CARD IS WHAT COUNTS. Prove the row's statement (the work); the ties are given (YtboabgjgcnkelaaDoorTie.lean); close each card by the builder's one call (the guide's Derived/Test/ToyasCard.lean, 'card_holds'). Laid BY PROGRAM, IN A SANDBOX (cutbox-door.mjs). By AI agents, Wed Nov 11 2026. No macro, syntax, notation, axiom, sorry.
-/
import Derived.Test.YtboabgjgcnkelaaDoorRows
import GoSem.ClaimSeven
namespace Go.Proofs.YtboabgjgcnkelaaDoor
namespace Rows

/-- THE TIED CARD OF 'heddlelaw4.FracOrder'. -/
def fracOrderCard : Claim7 := { stood := { row := fracOrderRow, standIns := [], harness := (true, "774cdd0f1f2f85c5c97924baadeaa2d59d988e3ab2b983aade0396e0c8b7f672"), looks := false }, kinds := [], alts := [], laidByText := true, laidKinds := [.data, .data, .data], laidTests := true, laidLooks := .later }
def FracOrderCardSaid : Prop := Claim7.holds Tryd.pinned (.plain (OpenSpec.ofChange fracOrderSpec)) fracOrderCard

/-- THE TIED CARD OF 'heddlelaw4.FracSmall'. -/
def fracSmallCard : Claim7 := { stood := { row := fracSmallRow, standIns := [], harness := (true, "774cdd0f1f2f85c5c97924baadeaa2d59d988e3ab2b983aade0396e0c8b7f672"), looks := false }, kinds := [], alts := [], laidByText := true, laidKinds := [.data, .data, .data], laidTests := true, laidLooks := .later }
def FracSmallCardSaid : Prop := Claim7.holds Tryd.pinned (.plain (OpenSpec.ofChange fracSmallSpec)) fracSmallCard

/-- THE TIED CARD OF 'heddlelaw4.FracLeast'. -/
def fracLeastCard : Claim7 := { stood := { row := fracLeastRow, standIns := [], harness := (true, "774cdd0f1f2f85c5c97924baadeaa2d59d988e3ab2b983aade0396e0c8b7f672"), looks := false }, kinds := [], alts := [], laidByText := true, laidKinds := [.data, .data, .data], laidTests := true, laidLooks := .later }
def FracLeastCardSaid : Prop := Claim7.holds Tryd.pinned (.plain (OpenSpec.ofChange fracLeastSpec)) fracLeastCard

/-- THE TIED CARD OF 'heddlelaw4.FracSides'. -/
def fracSidesCard : Claim7 := { stood := { row := fracSidesRow, standIns := [], harness := (true, "774cdd0f1f2f85c5c97924baadeaa2d59d988e3ab2b983aade0396e0c8b7f672"), looks := false }, kinds := [], alts := [], laidByText := true, laidKinds := [.data, .data, .data], laidTests := true, laidLooks := .later }
def FracSidesCardSaid : Prop := Claim7.holds Tryd.pinned (.plain (OpenSpec.ofChange fracSidesSpec)) fracSidesCard

/-- THE TIED CARD OF 'heddlelaw4.FracNorms'. -/
def fracNormsCard : Claim7 := { stood := { row := fracNormsRow, standIns := [], harness := (true, "774cdd0f1f2f85c5c97924baadeaa2d59d988e3ab2b983aade0396e0c8b7f672"), looks := false }, kinds := [], alts := [], laidByText := true, laidKinds := [.data, .data, .data], laidTests := true, laidLooks := .later }
def FracNormsCardSaid : Prop := Claim7.holds Tryd.pinned (.plain (OpenSpec.ofChange fracNormsSpec)) fracNormsCard

/-- THE TIED CARD OF 'heddlelaw4.FracAll'. -/
def fracAllCard : Claim7 := { stood := { row := fracAllRow, standIns := [], harness := (true, "774cdd0f1f2f85c5c97924baadeaa2d59d988e3ab2b983aade0396e0c8b7f672"), looks := false }, kinds := [], alts := [], laidByText := true, laidKinds := [.data, .data, .data], laidTests := true, laidLooks := .later }
def FracAllCardSaid : Prop := Claim7.holds Tryd.pinned (.plain (OpenSpec.ofChange fracAllSpec)) fracAllCard

/-- THE SECOND FORM's CARD OF 'heddlelaw4.FracOrder'. -/
def fracOrderUptoCard : Claim7 := { stood := { row := fracOrderUptoRow, standIns := [], harness := (true, "774cdd0f1f2f85c5c97924baadeaa2d59d988e3ab2b983aade0396e0c8b7f672"), looks := false }, kinds := [], alts := [], laidByText := true, laidKinds := [.data, .data, .data], laidTests := true, laidLooks := .later }
def FracOrderUptoCardSaid : Prop := Claim7.holds Tryd.pinned (.plain (OpenSpec.upto fracOrderSpec)) fracOrderUptoCard

/-- THE SECOND FORM's CARD OF 'heddlelaw4.FracSmall'. -/
def fracSmallUptoCard : Claim7 := { stood := { row := fracSmallUptoRow, standIns := [], harness := (true, "774cdd0f1f2f85c5c97924baadeaa2d59d988e3ab2b983aade0396e0c8b7f672"), looks := false }, kinds := [], alts := [], laidByText := true, laidKinds := [.data, .data, .data], laidTests := true, laidLooks := .later }
def FracSmallUptoCardSaid : Prop := Claim7.holds Tryd.pinned (.plain (OpenSpec.upto fracSmallSpec)) fracSmallUptoCard

/-- THE SECOND FORM's CARD OF 'heddlelaw4.FracLeast'. -/
def fracLeastUptoCard : Claim7 := { stood := { row := fracLeastUptoRow, standIns := [], harness := (true, "774cdd0f1f2f85c5c97924baadeaa2d59d988e3ab2b983aade0396e0c8b7f672"), looks := false }, kinds := [], alts := [], laidByText := true, laidKinds := [.data, .data, .data], laidTests := true, laidLooks := .later }
def FracLeastUptoCardSaid : Prop := Claim7.holds Tryd.pinned (.plain (OpenSpec.upto fracLeastSpec)) fracLeastUptoCard

/-- THE SECOND FORM's CARD OF 'heddlelaw4.FracSides'. -/
def fracSidesUptoCard : Claim7 := { stood := { row := fracSidesUptoRow, standIns := [], harness := (true, "774cdd0f1f2f85c5c97924baadeaa2d59d988e3ab2b983aade0396e0c8b7f672"), looks := false }, kinds := [], alts := [], laidByText := true, laidKinds := [.data, .data, .data], laidTests := true, laidLooks := .later }
def FracSidesUptoCardSaid : Prop := Claim7.holds Tryd.pinned (.plain (OpenSpec.upto fracSidesSpec)) fracSidesUptoCard

/-- THE SECOND FORM's CARD OF 'heddlelaw4.FracNorms'. -/
def fracNormsUptoCard : Claim7 := { stood := { row := fracNormsUptoRow, standIns := [], harness := (true, "774cdd0f1f2f85c5c97924baadeaa2d59d988e3ab2b983aade0396e0c8b7f672"), looks := false }, kinds := [], alts := [], laidByText := true, laidKinds := [.data, .data, .data], laidTests := true, laidLooks := .later }
def FracNormsUptoCardSaid : Prop := Claim7.holds Tryd.pinned (.plain (OpenSpec.upto fracNormsSpec)) fracNormsUptoCard

/-- THE SECOND FORM's CARD OF 'heddlelaw4.FracAll'. -/
def fracAllUptoCard : Claim7 := { stood := { row := fracAllUptoRow, standIns := [], harness := (true, "774cdd0f1f2f85c5c97924baadeaa2d59d988e3ab2b983aade0396e0c8b7f672"), looks := false }, kinds := [], alts := [], laidByText := true, laidKinds := [.data, .data, .data], laidTests := true, laidLooks := .later }
def FracAllUptoCardSaid : Prop := Claim7.holds Tryd.pinned (.plain (OpenSpec.upto fracAllSpec)) fracAllUptoCard
end Rows
end Go.Proofs.YtboabgjgcnkelaaDoor
