/-
  DERIVED. GIVEN WITH THE SEED: THE CARDS: each row of YtnfdedolgfcmfaaGreatDoorRows.lean that lists a variable, with what it lists TIED to the program's text (the seventh form; the later family's looks); each row that meets fmt, with fmt's text TOLD by the authors' own Lean function (tested against real Go, not proved from fmt's source: count such statements apart). THE CARD IS WHAT COUNTS. Prove the row's statement (the work); the ties are given (YtnfdedolgfcmfaaGreatDoorTie.lean); close each card by the builder's one call (the guide's Derived/Test/ToyasCard.lean, 'card_holds'). Laid BY PROGRAM, IN A SANDBOX (cutbox-door.mjs). By AI agents, Wed Nov 11 2026. No macro, syntax, notation, axiom, sorry.
-/
import Derived.Test.YtnfdedolgfcmfaaGreatDoorRows
import GoSem.ClaimSeven
namespace Go.Proofs.YtnfdedolgfcmfaaGreatDoor
namespace Rows

/-- THE TIED CARD OF 'strongboxlaw22.ReplicaHas'. -/
def replicaHasCard : Claim7 := { stood := { row := replicaHasRow, standIns := [], harness := (true, "907f0680ecf3bdfaf6d74c226ef8a8b98f784fbac943d77ed3b8bc7aa57cd09b"), looks := true }, kinds := [], alts := [], laidByText := true, laidKinds := [.data, .handle], laidTests := true, laidLooks := .later }
def ReplicaHasCardSaid : Prop := Claim7.holds Tryz.pinned (.plain (OpenSpec.ofChange replicaHasSpec)) replicaHasCard

/-- THE TIED CARD OF 'strongboxlaw22.ReplicaImages'. -/
def replicaImagesCard : Claim7 := { stood := { row := replicaImagesRow, standIns := [], harness := (true, "907f0680ecf3bdfaf6d74c226ef8a8b98f784fbac943d77ed3b8bc7aa57cd09b"), looks := true }, kinds := [], alts := [], laidByText := true, laidKinds := [.data, .handle], laidTests := true, laidLooks := .later }
def ReplicaImagesCardSaid : Prop := Claim7.holds Tryz.pinned (.plain (OpenSpec.ofChange replicaImagesSpec)) replicaImagesCard

/-- THE TIED CARD OF 'strongboxlaw22.ReplicaFrames'. -/
def replicaFramesCard : Claim7 := { stood := { row := replicaFramesRow, standIns := [], harness := (true, "907f0680ecf3bdfaf6d74c226ef8a8b98f784fbac943d77ed3b8bc7aa57cd09b"), looks := true }, kinds := [], alts := [], laidByText := true, laidKinds := [.data, .handle], laidTests := true, laidLooks := .later }
def ReplicaFramesCardSaid : Prop := Claim7.holds Tryz.pinned (.plain (OpenSpec.ofChange replicaFramesSpec)) replicaFramesCard

/-- THE TIED CARD OF 'strongboxlaw22.ReplicaPromotes'. -/
def replicaPromotesCard : Claim7 := { stood := { row := replicaPromotesRow, standIns := [], harness := (true, "907f0680ecf3bdfaf6d74c226ef8a8b98f784fbac943d77ed3b8bc7aa57cd09b"), looks := true }, kinds := [], alts := [], laidByText := true, laidKinds := [.data, .handle], laidTests := true, laidLooks := .later }
def ReplicaPromotesCardSaid : Prop := Claim7.holds Tryz.pinned (.plain (OpenSpec.ofChange replicaPromotesSpec)) replicaPromotesCard

/-- THE TIED CARD OF 'strongboxlaw22.ReplicaPlays'. -/
def replicaPlaysCard : Claim7 := { stood := { row := replicaPlaysRow, standIns := [], harness := (true, "907f0680ecf3bdfaf6d74c226ef8a8b98f784fbac943d77ed3b8bc7aa57cd09b"), looks := true }, kinds := [], alts := [], laidByText := true, laidKinds := [.data, .handle], laidTests := true, laidLooks := .later }
def ReplicaPlaysCardSaid : Prop := Claim7.holds Tryz.pinned (.plain (OpenSpec.ofChange replicaPlaysSpec)) replicaPlaysCard

/-- THE SECOND FORM's CARD OF 'strongboxlaw22.ReplicaHas'. -/
def replicaHasUptoCard : Claim7 := { stood := { row := replicaHasUptoRow, standIns := [], harness := (true, "907f0680ecf3bdfaf6d74c226ef8a8b98f784fbac943d77ed3b8bc7aa57cd09b"), looks := true }, kinds := [], alts := [], laidByText := true, laidKinds := [.data, .handle], laidTests := true, laidLooks := .later }
def ReplicaHasUptoCardSaid : Prop := Claim7.holds Tryz.pinned (.plain (OpenSpec.upto replicaHasSpec)) replicaHasUptoCard

/-- THE SECOND FORM's CARD OF 'strongboxlaw22.ReplicaImages'. -/
def replicaImagesUptoCard : Claim7 := { stood := { row := replicaImagesUptoRow, standIns := [], harness := (true, "907f0680ecf3bdfaf6d74c226ef8a8b98f784fbac943d77ed3b8bc7aa57cd09b"), looks := true }, kinds := [], alts := [], laidByText := true, laidKinds := [.data, .handle], laidTests := true, laidLooks := .later }
def ReplicaImagesUptoCardSaid : Prop := Claim7.holds Tryz.pinned (.plain (OpenSpec.upto replicaImagesSpec)) replicaImagesUptoCard

/-- THE SECOND FORM's CARD OF 'strongboxlaw22.ReplicaFrames'. -/
def replicaFramesUptoCard : Claim7 := { stood := { row := replicaFramesUptoRow, standIns := [], harness := (true, "907f0680ecf3bdfaf6d74c226ef8a8b98f784fbac943d77ed3b8bc7aa57cd09b"), looks := true }, kinds := [], alts := [], laidByText := true, laidKinds := [.data, .handle], laidTests := true, laidLooks := .later }
def ReplicaFramesUptoCardSaid : Prop := Claim7.holds Tryz.pinned (.plain (OpenSpec.upto replicaFramesSpec)) replicaFramesUptoCard

/-- THE SECOND FORM's CARD OF 'strongboxlaw22.ReplicaPromotes'. -/
def replicaPromotesUptoCard : Claim7 := { stood := { row := replicaPromotesUptoRow, standIns := [], harness := (true, "907f0680ecf3bdfaf6d74c226ef8a8b98f784fbac943d77ed3b8bc7aa57cd09b"), looks := true }, kinds := [], alts := [], laidByText := true, laidKinds := [.data, .handle], laidTests := true, laidLooks := .later }
def ReplicaPromotesUptoCardSaid : Prop := Claim7.holds Tryz.pinned (.plain (OpenSpec.upto replicaPromotesSpec)) replicaPromotesUptoCard

/-- THE SECOND FORM's CARD OF 'strongboxlaw22.ReplicaPlays'. -/
def replicaPlaysUptoCard : Claim7 := { stood := { row := replicaPlaysUptoRow, standIns := [], harness := (true, "907f0680ecf3bdfaf6d74c226ef8a8b98f784fbac943d77ed3b8bc7aa57cd09b"), looks := true }, kinds := [], alts := [], laidByText := true, laidKinds := [.data, .handle], laidTests := true, laidLooks := .later }
def ReplicaPlaysUptoCardSaid : Prop := Claim7.holds Tryz.pinned (.plain (OpenSpec.upto replicaPlaysSpec)) replicaPlaysUptoCard
end Rows
end Go.Proofs.YtnfdedolgfcmfaaGreatDoor
