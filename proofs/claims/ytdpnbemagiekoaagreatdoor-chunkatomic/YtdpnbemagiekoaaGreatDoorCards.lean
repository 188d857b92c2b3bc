/-
  DERIVED. GIVEN WITH THE SEED: THE CARDS: each row of YtdpnbemagiekoaaGreatDoorRows.lean that lists a variable, with what it lists TIED to the program's text (the seventh form; the later family's looks); each row that meets fmt, with fmt's text TOLD by the authors' own Lean function (tested against real Go, not proved from fmt's source: count such statements apart). THE CARD IS WHAT COUNTS. Prove the row's statement (the work); the ties are given (YtdpnbemagiekoaaGreatDoorTie.lean); close each card by the builder's one call (the guide's Derived/Test/ToyasCard.lean, 'card_holds'). Laid BY PROGRAM, IN A SANDBOX (cutbox-door.mjs). By AI agents, Wed Nov 11 2026. No macro, syntax, notation, axiom, sorry.
-/
import Derived.Test.YtdpnbemagiekoaaGreatDoorRows
import GoSem.ClaimSeven
namespace Go.Proofs.YtdpnbemagiekoaaGreatDoor
namespace Rows

/-- THE TIED CARD OF 'strongboxlaw9.ChunkBound'. -/
def chunkBoundCard : Claim7 := { stood := { row := chunkBoundRow, standIns := [], harness := (true, "9481bb310c9d22161fab4a62620b24837aa8ab05282791553ee17c8f17544170"), looks := true }, kinds := [], alts := [], laidByText := true, laidKinds := [.data, .handle, .sentinel, .sentinel, .sentinel, .data], laidTests := true, laidLooks := .later }
def ChunkBoundCardSaid : Prop := Claim7.holds Tryz.pinned (.plain (OpenSpec.ofChange chunkBoundSpec)) chunkBoundCard

/-- THE TIED CARD OF 'strongboxlaw9.ChunkClash'. -/
def chunkClashCard : Claim7 := { stood := { row := chunkClashRow, standIns := [], harness := (true, "9481bb310c9d22161fab4a62620b24837aa8ab05282791553ee17c8f17544170"), looks := true }, kinds := [], alts := [], laidByText := true, laidKinds := [.data, .handle, .sentinel, .sentinel, .sentinel, .data], laidTests := true, laidLooks := .later }
def ChunkClashCardSaid : Prop := Claim7.holds Tryz.pinned (.plain (OpenSpec.ofChange chunkClashSpec)) chunkClashCard

/-- THE TIED CARD OF 'strongboxlaw9.ChunkCounts'. -/
def chunkCountsCard : Claim7 := { stood := { row := chunkCountsRow, standIns := [], harness := (true, "9481bb310c9d22161fab4a62620b24837aa8ab05282791553ee17c8f17544170"), looks := true }, kinds := [], alts := [], laidByText := true, laidKinds := [.data, .handle, .sentinel, .sentinel, .sentinel, .data], laidTests := true, laidLooks := .later }
def ChunkCountsCardSaid : Prop := Claim7.holds Tryz.pinned (.plain (OpenSpec.ofChange chunkCountsSpec)) chunkCountsCard

/-- THE TIED CARD OF 'strongboxlaw9.ChunkAtomic'. -/
def chunkAtomicCard : Claim7 := { stood := { row := chunkAtomicRow, standIns := [], harness := (true, "9481bb310c9d22161fab4a62620b24837aa8ab05282791553ee17c8f17544170"), looks := true }, kinds := [], alts := [], laidByText := true, laidKinds := [.data, .handle, .sentinel, .sentinel, .sentinel, .data], laidTests := true, laidLooks := .later }
def ChunkAtomicCardSaid : Prop := Claim7.holds Tryz.pinned (.plain (OpenSpec.ofChange chunkAtomicSpec)) chunkAtomicCard

/-- THE TIED CARD OF 'strongboxlaw9.ChunkPlays'. -/
def chunkPlaysCard : Claim7 := { stood := { row := chunkPlaysRow, standIns := [], harness := (true, "9481bb310c9d22161fab4a62620b24837aa8ab05282791553ee17c8f17544170"), looks := true }, kinds := [], alts := [], laidByText := true, laidKinds := [.data, .handle, .sentinel, .sentinel, .sentinel, .data], laidTests := true, laidLooks := .later }
def ChunkPlaysCardSaid : Prop := Claim7.holds Tryz.pinned (.plain (OpenSpec.ofChange chunkPlaysSpec)) chunkPlaysCard

/-- THE TIED CARD OF 'strongboxlaw9.ChunkDies'. -/
def chunkDiesCard : Claim7 := { stood := { row := chunkDiesRow, standIns := [], harness := (true, "9481bb310c9d22161fab4a62620b24837aa8ab05282791553ee17c8f17544170"), looks := true }, kinds := [], alts := [], laidByText := true, laidKinds := [.data, .handle, .sentinel, .sentinel, .sentinel, .data], laidTests := true, laidLooks := .later }
def ChunkDiesCardSaid : Prop := Claim7.holds Tryz.pinned (.plain (OpenSpec.ofChange chunkDiesSpec)) chunkDiesCard

/-- THE SECOND FORM's CARD OF 'strongboxlaw9.ChunkBound'. -/
def chunkBoundUptoCard : Claim7 := { stood := { row := chunkBoundUptoRow, standIns := [], harness := (true, "9481bb310c9d22161fab4a62620b24837aa8ab05282791553ee17c8f17544170"), looks := true }, kinds := [], alts := [], laidByText := true, laidKinds := [.data, .handle, .sentinel, .sentinel, .sentinel, .data], laidTests := true, laidLooks := .later }
def ChunkBoundUptoCardSaid : Prop := Claim7.holds Tryz.pinned (.plain (OpenSpec.upto chunkBoundSpec)) chunkBoundUptoCard

/-- THE SECOND FORM's CARD OF 'strongboxlaw9.ChunkClash'. -/
def chunkClashUptoCard : Claim7 := { stood := { row := chunkClashUptoRow, standIns := [], harness := (true, "9481bb310c9d22161fab4a62620b24837aa8ab05282791553ee17c8f17544170"), looks := true }, kinds := [], alts := [], laidByText := true, laidKinds := [.data, .handle, .sentinel, .sentinel, .sentinel, .data], laidTests := true, laidLooks := .later }
def ChunkClashUptoCardSaid : Prop := Claim7.holds Tryz.pinned (.plain (OpenSpec.upto chunkClashSpec)) chunkClashUptoCard

/-- THE SECOND FORM's CARD OF 'strongboxlaw9.ChunkCounts'. -/
def chunkCountsUptoCard : Claim7 := { stood := { row := chunkCountsUptoRow, standIns := [], harness := (true, "9481bb310c9d22161fab4a62620b24837aa8ab05282791553ee17c8f17544170"), looks := true }, kinds := [], alts := [], laidByText := true, laidKinds := [.data, .handle, .sentinel, .sentinel, .sentinel, .data], laidTests := true, laidLooks := .later }
def ChunkCountsUptoCardSaid : Prop := Claim7.holds Tryz.pinned (.plain (OpenSpec.upto chunkCountsSpec)) chunkCountsUptoCard

/-- THE SECOND FORM's CARD OF 'strongboxlaw9.ChunkAtomic'. -/
def chunkAtomicUptoCard : Claim7 := { stood := { row := chunkAtomicUptoRow, standIns := [], harness := (true, "9481bb310c9d22161fab4a62620b24837aa8ab05282791553ee17c8f17544170"), looks := true }, kinds := [], alts := [], laidByText := true, laidKinds := [.data, .handle, .sentinel, .sentinel, .sentinel, .data], laidTests := true, laidLooks := .later }
def ChunkAtomicUptoCardSaid : Prop := Claim7.holds Tryz.pinned (.plain (OpenSpec.upto chunkAtomicSpec)) chunkAtomicUptoCard

/-- THE SECOND FORM's CARD OF 'strongboxlaw9.ChunkPlays'. -/
def chunkPlaysUptoCard : Claim7 := { stood := { row := chunkPlaysUptoRow, standIns := [], harness := (true, "9481bb310c9d22161fab4a62620b24837aa8ab05282791553ee17c8f17544170"), looks := true }, kinds := [], alts := [], laidByText := true, laidKinds := [.data, .handle, .sentinel, .sentinel, .sentinel, .data], laidTests := true, laidLooks := .later }
def ChunkPlaysUptoCardSaid : Prop := Claim7.holds Tryz.pinned (.plain (OpenSpec.upto chunkPlaysSpec)) chunkPlaysUptoCard

/-- THE SECOND FORM's CARD OF 'strongboxlaw9.ChunkDies'. -/
def chunkDiesUptoCard : Claim7 := { stood := { row := chunkDiesUptoRow, standIns := [], harness := (true, "9481bb310c9d22161fab4a62620b24837aa8ab05282791553ee17c8f17544170"), looks := true }, kinds := [], alts := [], laidByText := true, laidKinds := [.data, .handle, .sentinel, .sentinel, .sentinel, .data], laidTests := true, laidLooks := .later }
def ChunkDiesUptoCardSaid : Prop := Claim7.holds Tryz.pinned (.plain (OpenSpec.upto chunkDiesSpec)) chunkDiesUptoCard
end Rows
end Go.Proofs.YtdpnbemagiekoaaGreatDoor
