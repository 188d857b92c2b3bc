/-
  DERIVED. GIVEN WITH THE SEED: THE CARDS: each row of YtnfcnpolflfpfaaGreatDoorRows.lean that lists a variable, with what it lists TIED to the program's text (the seventh form; the later family's looks); each row that meets fmt, with fmt's text TOLD by the authors' own Lean function (tested against real Go, not proved from fmt's source: count such statements apart). THE CARD IS WHAT COUNTS. Prove the row's statement (the work); the ties are given (YtnfcnpolflfpfaaGreatDoorTie.lean); close each card by the builder's one call (the guide's Derived/Test/ToyasCard.lean, 'card_holds'). Laid BY PROGRAM, IN A SANDBOX (cutbox-door.mjs). By AI agents, Wed Nov 11 2026. No macro, syntax, notation, axiom, sorry.
-/
import Derived.Test.YtnfcnpolflfpfaaGreatDoorRows
import GoSem.ClaimSeven
namespace Go.Proofs.YtnfcnpolflfpfaaGreatDoor
namespace Rows

/-- THE TIED CARD OF 'strongboxlaw8.IndexPages'. -/
def indexPagesCard : Claim7 := { stood := { row := indexPagesRow, standIns := [], harness := (true, "0f8b7b94367fbcf051639d8a553182f4a998f464b95186f5231ecc1bfb750425"), looks := true }, kinds := [], alts := [], laidByText := true, laidKinds := [.handle], laidTests := true, laidLooks := .later }
def IndexPagesCardSaid : Prop := Claim7.holds Tryz.pinned (.plain (OpenSpec.ofChange indexPagesSpec)) indexPagesCard

/-- THE TIED CARD OF 'strongboxlaw8.IndexInitials'. -/
def indexInitialsCard : Claim7 := { stood := { row := indexInitialsRow, standIns := [], harness := (true, "0f8b7b94367fbcf051639d8a553182f4a998f464b95186f5231ecc1bfb750425"), looks := true }, kinds := [], alts := [], laidByText := true, laidKinds := [.handle], laidTests := true, laidLooks := .later }
def IndexInitialsCardSaid : Prop := Claim7.holds Tryz.pinned (.plain (OpenSpec.ofChange indexInitialsSpec)) indexInitialsCard

/-- THE TIED CARD OF 'strongboxlaw8.IndexFinds'. -/
def indexFindsCard : Claim7 := { stood := { row := indexFindsRow, standIns := [], harness := (true, "0f8b7b94367fbcf051639d8a553182f4a998f464b95186f5231ecc1bfb750425"), looks := true }, kinds := [], alts := [], laidByText := true, laidKinds := [.handle], laidTests := true, laidLooks := .later }
def IndexFindsCardSaid : Prop := Claim7.holds Tryz.pinned (.plain (OpenSpec.ofChange indexFindsSpec)) indexFindsCard

/-- THE TIED CARD OF 'strongboxlaw8.IndexCrash'. -/
def indexCrashCard : Claim7 := { stood := { row := indexCrashRow, standIns := [], harness := (true, "0f8b7b94367fbcf051639d8a553182f4a998f464b95186f5231ecc1bfb750425"), looks := true }, kinds := [], alts := [], laidByText := true, laidKinds := [.handle], laidTests := true, laidLooks := .later }
def IndexCrashCardSaid : Prop := Claim7.holds Tryz.pinned (.plain (OpenSpec.ofChange indexCrashSpec)) indexCrashCard

/-- THE TIED CARD OF 'strongboxlaw8.IndexPlays'. -/
def indexPlaysCard : Claim7 := { stood := { row := indexPlaysRow, standIns := [], harness := (true, "0f8b7b94367fbcf051639d8a553182f4a998f464b95186f5231ecc1bfb750425"), looks := true }, kinds := [], alts := [], laidByText := true, laidKinds := [.handle], laidTests := true, laidLooks := .later }
def IndexPlaysCardSaid : Prop := Claim7.holds Tryz.pinned (.plain (OpenSpec.ofChange indexPlaysSpec)) indexPlaysCard

/-- THE SECOND FORM's CARD OF 'strongboxlaw8.IndexPages'. -/
def indexPagesUptoCard : Claim7 := { stood := { row := indexPagesUptoRow, standIns := [], harness := (true, "0f8b7b94367fbcf051639d8a553182f4a998f464b95186f5231ecc1bfb750425"), looks := true }, kinds := [], alts := [], laidByText := true, laidKinds := [.handle], laidTests := true, laidLooks := .later }
def IndexPagesUptoCardSaid : Prop := Claim7.holds Tryz.pinned (.plain (OpenSpec.upto indexPagesSpec)) indexPagesUptoCard

/-- THE SECOND FORM's CARD OF 'strongboxlaw8.IndexInitials'. -/
def indexInitialsUptoCard : Claim7 := { stood := { row := indexInitialsUptoRow, standIns := [], harness := (true, "0f8b7b94367fbcf051639d8a553182f4a998f464b95186f5231ecc1bfb750425"), looks := true }, kinds := [], alts := [], laidByText := true, laidKinds := [.handle], laidTests := true, laidLooks := .later }
def IndexInitialsUptoCardSaid : Prop := Claim7.holds Tryz.pinned (.plain (OpenSpec.upto indexInitialsSpec)) indexInitialsUptoCard

/-- THE SECOND FORM's CARD OF 'strongboxlaw8.IndexFinds'. -/
def indexFindsUptoCard : Claim7 := { stood := { row := indexFindsUptoRow, standIns := [], harness := (true, "0f8b7b94367fbcf051639d8a553182f4a998f464b95186f5231ecc1bfb750425"), looks := true }, kinds := [], alts := [], laidByText := true, laidKinds := [.handle], laidTests := true, laidLooks := .later }
def IndexFindsUptoCardSaid : Prop := Claim7.holds Tryz.pinned (.plain (OpenSpec.upto indexFindsSpec)) indexFindsUptoCard

/-- THE SECOND FORM's CARD OF 'strongboxlaw8.IndexCrash'. -/
def indexCrashUptoCard : Claim7 := { stood := { row := indexCrashUptoRow, standIns := [], harness := (true, "0f8b7b94367fbcf051639d8a553182f4a998f464b95186f5231ecc1bfb750425"), looks := true }, kinds := [], alts := [], laidByText := true, laidKinds := [.handle], laidTests := true, laidLooks := .later }
def IndexCrashUptoCardSaid : Prop := Claim7.holds Tryz.pinned (.plain (OpenSpec.upto indexCrashSpec)) indexCrashUptoCard

/-- THE SECOND FORM's CARD OF 'strongboxlaw8.IndexPlays'. -/
def indexPlaysUptoCard : Claim7 := { stood := { row := indexPlaysUptoRow, standIns := [], harness := (true, "0f8b7b94367fbcf051639d8a553182f4a998f464b95186f5231ecc1bfb750425"), looks := true }, kinds := [], alts := [], laidByText := true, laidKinds := [.handle], laidTests := true, laidLooks := .later }
def IndexPlaysUptoCardSaid : Prop := Claim7.holds Tryz.pinned (.plain (OpenSpec.upto indexPlaysSpec)) indexPlaysUptoCard
end Rows
end Go.Proofs.YtnfcnpolflfpfaaGreatDoor
