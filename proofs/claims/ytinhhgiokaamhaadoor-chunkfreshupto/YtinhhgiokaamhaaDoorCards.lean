/-
  DERIVED. GIVEN WITH THE SEED: THE CARDS: each row of YtinhhgiokaamhaaDoorRows.lean that lists a variable, with what it lists TIED to the program's text (the seventh form; the later family's looks); each row that meets fmt, with fmt's text TOLD by the authors' own Lean function (tested against real Go, not proved from fmt's source: count such statements apart). THE CARD IS WHAT COUNTS. Prove the row's statement (the work); the ties are given (YtinhhgiokaamhaaDoorTie.lean); close each card by the builder's one call (the guide's Derived/Test/ToyasCard.lean, 'card_holds'). Laid BY PROGRAM, IN A SANDBOX (cutbox-door.mjs). By AI agents, Wed Nov 11 2026. No macro, syntax, notation, axiom, sorry.
-/
import Derived.Test.YtinhhgiokaamhaaDoorRows
import GoSem.ClaimSeven
namespace Go.Proofs.YtinhhgiokaamhaaDoor
namespace Rows

/-- THE TIED CARD OF 'heddlelaw8.ChunkSums'. -/
def chunkSumsCard : Claim7 := { stood := { row := chunkSumsRow, standIns := [], harness := (true, "e88407c1d4185520959b71b7ca7ec990be909ce981dfabe17e9964094250d649"), looks := false }, kinds := [], alts := [], laidByText := true, laidKinds := [.data], laidTests := true, laidLooks := .later }
def ChunkSumsCardSaid : Prop := Claim7.holds Tryd.pinned (.plain (OpenSpec.ofChange chunkSumsSpec)) chunkSumsCard

/-- THE TIED CARD OF 'heddlelaw8.ChunkDamage'. -/
def chunkDamageCard : Claim7 := { stood := { row := chunkDamageRow, standIns := [], harness := (true, "e88407c1d4185520959b71b7ca7ec990be909ce981dfabe17e9964094250d649"), looks := false }, kinds := [], alts := [], laidByText := true, laidKinds := [.data], laidTests := true, laidLooks := .later }
def ChunkDamageCardSaid : Prop := Claim7.holds Tryd.pinned (.plain (OpenSpec.ofChange chunkDamageSpec)) chunkDamageCard

/-- THE TIED CARD OF 'heddlelaw8.ChunkFull'. -/
def chunkFullCard : Claim7 := { stood := { row := chunkFullRow, standIns := [], harness := (true, "e88407c1d4185520959b71b7ca7ec990be909ce981dfabe17e9964094250d649"), looks := false }, kinds := [], alts := [], laidByText := true, laidKinds := [.data], laidTests := true, laidLooks := .later }
def ChunkFullCardSaid : Prop := Claim7.holds Tryd.pinned (.plain (OpenSpec.ofChange chunkFullSpec)) chunkFullCard

/-- THE TIED CARD OF 'heddlelaw8.ChunkForm'. -/
def chunkFormCard : Claim7 := { stood := { row := chunkFormRow, standIns := [], harness := (true, "e88407c1d4185520959b71b7ca7ec990be909ce981dfabe17e9964094250d649"), looks := false }, kinds := [], alts := [], laidByText := true, laidKinds := [.data], laidTests := true, laidLooks := .later }
def ChunkFormCardSaid : Prop := Claim7.holds Tryd.pinned (.plain (OpenSpec.ofChange chunkFormSpec)) chunkFormCard

/-- THE TIED CARD OF 'heddlelaw8.ChunkAll'. -/
def chunkAllCard : Claim7 := { stood := { row := chunkAllRow, standIns := [], harness := (true, "e88407c1d4185520959b71b7ca7ec990be909ce981dfabe17e9964094250d649"), looks := false }, kinds := [], alts := [], laidByText := true, laidKinds := [.data], laidTests := true, laidLooks := .later }
def ChunkAllCardSaid : Prop := Claim7.holds Tryd.pinned (.plain (OpenSpec.ofChange chunkAllSpec)) chunkAllCard

/-- THE TIED CARD OF 'heddlelaw8.ChunkFresh'. -/
def chunkFreshCard : Claim7 := { stood := { row := chunkFreshRow, standIns := [], harness := (true, "e88407c1d4185520959b71b7ca7ec990be909ce981dfabe17e9964094250d649"), looks := false }, kinds := [], alts := [], laidByText := true, laidKinds := [.data], laidTests := true, laidLooks := .later }
def ChunkFreshCardSaid : Prop := Claim7.holds Tryd.pinned (.plain (OpenSpec.ofChange chunkFreshSpec)) chunkFreshCard

/-- THE SECOND FORM's CARD OF 'heddlelaw8.ChunkSums'. -/
def chunkSumsUptoCard : Claim7 := { stood := { row := chunkSumsUptoRow, standIns := [], harness := (true, "e88407c1d4185520959b71b7ca7ec990be909ce981dfabe17e9964094250d649"), looks := false }, kinds := [], alts := [], laidByText := true, laidKinds := [.data], laidTests := true, laidLooks := .later }
def ChunkSumsUptoCardSaid : Prop := Claim7.holds Tryd.pinned (.plain (OpenSpec.upto chunkSumsSpec)) chunkSumsUptoCard

/-- THE SECOND FORM's CARD OF 'heddlelaw8.ChunkDamage'. -/
def chunkDamageUptoCard : Claim7 := { stood := { row := chunkDamageUptoRow, standIns := [], harness := (true, "e88407c1d4185520959b71b7ca7ec990be909ce981dfabe17e9964094250d649"), looks := false }, kinds := [], alts := [], laidByText := true, laidKinds := [.data], laidTests := true, laidLooks := .later }
def ChunkDamageUptoCardSaid : Prop := Claim7.holds Tryd.pinned (.plain (OpenSpec.upto chunkDamageSpec)) chunkDamageUptoCard

/-- THE SECOND FORM's CARD OF 'heddlelaw8.ChunkFull'. -/
def chunkFullUptoCard : Claim7 := { stood := { row := chunkFullUptoRow, standIns := [], harness := (true, "e88407c1d4185520959b71b7ca7ec990be909ce981dfabe17e9964094250d649"), looks := false }, kinds := [], alts := [], laidByText := true, laidKinds := [.data], laidTests := true, laidLooks := .later }
def ChunkFullUptoCardSaid : Prop := Claim7.holds Tryd.pinned (.plain (OpenSpec.upto chunkFullSpec)) chunkFullUptoCard

/-- THE SECOND FORM's CARD OF 'heddlelaw8.ChunkForm'. -/
def chunkFormUptoCard : Claim7 := { stood := { row := chunkFormUptoRow, standIns := [], harness := (true, "e88407c1d4185520959b71b7ca7ec990be909ce981dfabe17e9964094250d649"), looks := false }, kinds := [], alts := [], laidByText := true, laidKinds := [.data], laidTests := true, laidLooks := .later }
def ChunkFormUptoCardSaid : Prop := Claim7.holds Tryd.pinned (.plain (OpenSpec.upto chunkFormSpec)) chunkFormUptoCard

/-- THE SECOND FORM's CARD OF 'heddlelaw8.ChunkAll'. -/
def chunkAllUptoCard : Claim7 := { stood := { row := chunkAllUptoRow, standIns := [], harness := (true, "e88407c1d4185520959b71b7ca7ec990be909ce981dfabe17e9964094250d649"), looks := false }, kinds := [], alts := [], laidByText := true, laidKinds := [.data], laidTests := true, laidLooks := .later }
def ChunkAllUptoCardSaid : Prop := Claim7.holds Tryd.pinned (.plain (OpenSpec.upto chunkAllSpec)) chunkAllUptoCard

/-- THE SECOND FORM's CARD OF 'heddlelaw8.ChunkFresh'. -/
def chunkFreshUptoCard : Claim7 := { stood := { row := chunkFreshUptoRow, standIns := [], harness := (true, "e88407c1d4185520959b71b7ca7ec990be909ce981dfabe17e9964094250d649"), looks := false }, kinds := [], alts := [], laidByText := true, laidKinds := [.data], laidTests := true, laidLooks := .later }
def ChunkFreshUptoCardSaid : Prop := Claim7.holds Tryd.pinned (.plain (OpenSpec.upto chunkFreshSpec)) chunkFreshUptoCard
end Rows
end Go.Proofs.YtinhhgiokaamhaaDoor
