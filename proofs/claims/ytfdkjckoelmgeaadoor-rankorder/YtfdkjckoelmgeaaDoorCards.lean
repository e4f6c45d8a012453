/-
  DERIVED. GIVEN WITH THE SEED: THE CARDS: each row of YtfdkjckoelmgeaaDoorRows.lean that lists a variable, with what it lists TIED to the program's text (the seventh form; the later family's looks); each row that meets fmt, with fmt's text TOLD by the authors' own Lean function (tested against real Go, not proved from fmt's source: count such statements apart). THE CARD IS WHAT COUNTS. Prove the row's statement (the work); the ties are given (YtfdkjckoelmgeaaDoorTie.lean); close each card by the builder's one call (the guide's Derived/Test/ToyasCard.lean, 'card_holds'). Laid BY PROGRAM, IN A SANDBOX (cutbox-door.mjs). By AI agents, Wed Nov 11 2026. No macro, syntax, notation, axiom, sorry.
-/
import Derived.Test.YtfdkjckoelmgeaaDoorRows
import GoSem.ClaimSeven
namespace Go.Proofs.YtfdkjckoelmgeaaDoor
namespace Rows

/-- THE TIED CARD OF 'heddlelaw24.RankOrder'. -/
def rankOrderCard : Claim7 := { stood := { row := rankOrderRow, standIns := [], harness := (true, "3384a2a98b11a29c8842fa53b19c50a13c27b2c84fa2a2f621a73e1f579fd0f8"), looks := false }, kinds := [], alts := [], laidByText := true, laidKinds := [.data, .data, .data], laidTests := true, laidLooks := .later }
def RankOrderCardSaid : Prop := Claim7.holds Tryd.pinned (.plain (OpenSpec.ofChange rankOrderSpec)) rankOrderCard

/-- THE TIED CARD OF 'heddlelaw24.RankFull'. -/
def rankFullCard : Claim7 := { stood := { row := rankFullRow, standIns := [], harness := (true, "3384a2a98b11a29c8842fa53b19c50a13c27b2c84fa2a2f621a73e1f579fd0f8"), looks := false }, kinds := [], alts := [], laidByText := true, laidKinds := [.data, .data, .data], laidTests := true, laidLooks := .later }
def RankFullCardSaid : Prop := Claim7.holds Tryd.pinned (.plain (OpenSpec.ofChange rankFullSpec)) rankFullCard

/-- THE TIED CARD OF 'heddlelaw24.RankCounts'. -/
def rankCountsCard : Claim7 := { stood := { row := rankCountsRow, standIns := [], harness := (true, "3384a2a98b11a29c8842fa53b19c50a13c27b2c84fa2a2f621a73e1f579fd0f8"), looks := false }, kinds := [], alts := [], laidByText := true, laidKinds := [.data, .data, .data], laidTests := true, laidLooks := .later }
def RankCountsCardSaid : Prop := Claim7.holds Tryd.pinned (.plain (OpenSpec.ofChange rankCountsSpec)) rankCountsCard

/-- THE TIED CARD OF 'heddlelaw24.RankAll'. -/
def rankAllCard : Claim7 := { stood := { row := rankAllRow, standIns := [], harness := (true, "3384a2a98b11a29c8842fa53b19c50a13c27b2c84fa2a2f621a73e1f579fd0f8"), looks := false }, kinds := [], alts := [], laidByText := true, laidKinds := [.data, .data, .data], laidTests := true, laidLooks := .later }
def RankAllCardSaid : Prop := Claim7.holds Tryd.pinned (.plain (OpenSpec.ofChange rankAllSpec)) rankAllCard

/-- THE TIED CARD OF 'heddlelaw24.RankFresh'. -/
def rankFreshCard : Claim7 := { stood := { row := rankFreshRow, standIns := [], harness := (true, "3384a2a98b11a29c8842fa53b19c50a13c27b2c84fa2a2f621a73e1f579fd0f8"), looks := false }, kinds := [], alts := [], laidByText := true, laidKinds := [.data, .data, .data], laidTests := true, laidLooks := .later }
def RankFreshCardSaid : Prop := Claim7.holds Tryd.pinned (.plain (OpenSpec.ofChange rankFreshSpec)) rankFreshCard

/-- THE SECOND FORM's CARD OF 'heddlelaw24.RankOrder'. -/
def rankOrderUptoCard : Claim7 := { stood := { row := rankOrderUptoRow, standIns := [], harness := (true, "3384a2a98b11a29c8842fa53b19c50a13c27b2c84fa2a2f621a73e1f579fd0f8"), looks := false }, kinds := [], alts := [], laidByText := true, laidKinds := [.data, .data, .data], laidTests := true, laidLooks := .later }
def RankOrderUptoCardSaid : Prop := Claim7.holds Tryd.pinned (.plain (OpenSpec.upto rankOrderSpec)) rankOrderUptoCard

/-- THE SECOND FORM's CARD OF 'heddlelaw24.RankFull'. -/
def rankFullUptoCard : Claim7 := { stood := { row := rankFullUptoRow, standIns := [], harness := (true, "3384a2a98b11a29c8842fa53b19c50a13c27b2c84fa2a2f621a73e1f579fd0f8"), looks := false }, kinds := [], alts := [], laidByText := true, laidKinds := [.data, .data, .data], laidTests := true, laidLooks := .later }
def RankFullUptoCardSaid : Prop := Claim7.holds Tryd.pinned (.plain (OpenSpec.upto rankFullSpec)) rankFullUptoCard

/-- THE SECOND FORM's CARD OF 'heddlelaw24.RankCounts'. -/
def rankCountsUptoCard : Claim7 := { stood := { row := rankCountsUptoRow, standIns := [], harness := (true, "3384a2a98b11a29c8842fa53b19c50a13c27b2c84fa2a2f621a73e1f579fd0f8"), looks := false }, kinds := [], alts := [], laidByText := true, laidKinds := [.data, .data, .data], laidTests := true, laidLooks := .later }
def RankCountsUptoCardSaid : Prop := Claim7.holds Tryd.pinned (.plain (OpenSpec.upto rankCountsSpec)) rankCountsUptoCard

/-- THE SECOND FORM's CARD OF 'heddlelaw24.RankAll'. -/
def rankAllUptoCard : Claim7 := { stood := { row := rankAllUptoRow, standIns := [], harness := (true, "3384a2a98b11a29c8842fa53b19c50a13c27b2c84fa2a2f621a73e1f579fd0f8"), looks := false }, kinds := [], alts := [], laidByText := true, laidKinds := [.data, .data, .data], laidTests := true, laidLooks := .later }
def RankAllUptoCardSaid : Prop := Claim7.holds Tryd.pinned (.plain (OpenSpec.upto rankAllSpec)) rankAllUptoCard

/-- THE SECOND FORM's CARD OF 'heddlelaw24.RankFresh'. -/
def rankFreshUptoCard : Claim7 := { stood := { row := rankFreshUptoRow, standIns := [], harness := (true, "3384a2a98b11a29c8842fa53b19c50a13c27b2c84fa2a2f621a73e1f579fd0f8"), looks := false }, kinds := [], alts := [], laidByText := true, laidKinds := [.data, .data, .data], laidTests := true, laidLooks := .later }
def RankFreshUptoCardSaid : Prop := Claim7.holds Tryd.pinned (.plain (OpenSpec.upto rankFreshSpec)) rankFreshUptoCard
end Rows
end Go.Proofs.YtfdkjckoelmgeaaDoor
