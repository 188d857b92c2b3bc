/-
  DERIVED. GIVEN WITH THE SEED: THE CARDS: each row of YtabgcgdpeikieaaDoorRows.lean that lists a variable, with what it lists TIED to the program's text (the seventh form; the later family's looks); each row that meets fmt, with fmt's text TOLD by the authors' own Lean function (tested against real Go, not proved from fmt's source: count such statements apart). THE CARD IS WHAT COUNTS. Prove the row's statement (the work); the ties are given (YtabgcgdpeikieaaDoorTie.lean); close each card by the builder's one call (the guide's Derived/Test/ToyasCard.lean, 'card_holds'). Laid BY PROGRAM, IN A SANDBOX (cutbox-door.mjs). By AI agents, Wed Nov 11 2026. No macro, syntax, notation, axiom, sorry.
-/
import Derived.Test.YtabgcgdpeikieaaDoorRows
import GoSem.ClaimSeven
namespace Go.Proofs.YtabgcgdpeikieaaDoor
namespace Rows

/-- THE TIED CARD OF 'strongboxlaw13.ProofOnce'. -/
def proofOnceCard : Claim7 := { stood := { row := proofOnceRow, standIns := [], harness := (true, "431074e11daeb3c77627fa0a4709c613a59ab0745bca06458e433377e48ad1aa"), looks := false }, kinds := [], alts := [], laidByText := true, laidKinds := [.data], laidTests := true, laidLooks := .later }
def ProofOnceCardSaid : Prop := Claim7.holds Tryd.pinned (.plain (OpenSpec.ofChange proofOnceSpec)) proofOnceCard

/-- THE TIED CARD OF 'strongboxlaw13.ProofApart'. -/
def proofApartCard : Claim7 := { stood := { row := proofApartRow, standIns := [], harness := (true, "431074e11daeb3c77627fa0a4709c613a59ab0745bca06458e433377e48ad1aa"), looks := false }, kinds := [], alts := [], laidByText := true, laidKinds := [.data], laidTests := true, laidLooks := .later }
def ProofApartCardSaid : Prop := Claim7.holds Tryd.pinned (.plain (OpenSpec.ofChange proofApartSpec)) proofApartCard

/-- THE TIED CARD OF 'strongboxlaw13.ProofTells'. -/
def proofTellsCard : Claim7 := { stood := { row := proofTellsRow, standIns := [], harness := (true, "431074e11daeb3c77627fa0a4709c613a59ab0745bca06458e433377e48ad1aa"), looks := false }, kinds := [], alts := [], laidByText := true, laidKinds := [.data], laidTests := true, laidLooks := .later }
def ProofTellsCardSaid : Prop := Claim7.holds Tryd.pinned (.plain (OpenSpec.ofChange proofTellsSpec)) proofTellsCard

/-- THE TIED CARD OF 'strongboxlaw13.ProofSamples'. -/
def proofSamplesCard : Claim7 := { stood := { row := proofSamplesRow, standIns := [], harness := (true, "431074e11daeb3c77627fa0a4709c613a59ab0745bca06458e433377e48ad1aa"), looks := false }, kinds := [], alts := [], laidByText := true, laidKinds := [.data], laidTests := true, laidLooks := .later }
def ProofSamplesCardSaid : Prop := Claim7.holds Tryd.pinned (.plain (OpenSpec.ofChange proofSamplesSpec)) proofSamplesCard

/-- THE TIED CARD OF 'strongboxlaw13.ProofPlaces'. -/
def proofPlacesCard : Claim7 := { stood := { row := proofPlacesRow, standIns := [], harness := (true, "431074e11daeb3c77627fa0a4709c613a59ab0745bca06458e433377e48ad1aa"), looks := false }, kinds := [], alts := [], laidByText := true, laidKinds := [.data], laidTests := true, laidLooks := .later }
def ProofPlacesCardSaid : Prop := Claim7.holds Tryd.pinned (.plain (OpenSpec.ofChange proofPlacesSpec)) proofPlacesCard

/-- THE TIED CARD OF 'strongboxlaw13.ProofBooks'. -/
def proofBooksCard : Claim7 := { stood := { row := proofBooksRow, standIns := [], harness := (true, "431074e11daeb3c77627fa0a4709c613a59ab0745bca06458e433377e48ad1aa"), looks := false }, kinds := [], alts := [], laidByText := true, laidKinds := [.data], laidTests := true, laidLooks := .later }
def ProofBooksCardSaid : Prop := Claim7.holds Tryd.pinned (.plain (OpenSpec.ofChange proofBooksSpec)) proofBooksCard

/-- THE SECOND FORM's CARD OF 'strongboxlaw13.ProofOnce'. -/
def proofOnceUptoCard : Claim7 := { stood := { row := proofOnceUptoRow, standIns := [], harness := (true, "431074e11daeb3c77627fa0a4709c613a59ab0745bca06458e433377e48ad1aa"), looks := false }, kinds := [], alts := [], laidByText := true, laidKinds := [.data], laidTests := true, laidLooks := .later }
def ProofOnceUptoCardSaid : Prop := Claim7.holds Tryd.pinned (.plain (OpenSpec.upto proofOnceSpec)) proofOnceUptoCard

/-- THE SECOND FORM's CARD OF 'strongboxlaw13.ProofApart'. -/
def proofApartUptoCard : Claim7 := { stood := { row := proofApartUptoRow, standIns := [], harness := (true, "431074e11daeb3c77627fa0a4709c613a59ab0745bca06458e433377e48ad1aa"), looks := false }, kinds := [], alts := [], laidByText := true, laidKinds := [.data], laidTests := true, laidLooks := .later }
def ProofApartUptoCardSaid : Prop := Claim7.holds Tryd.pinned (.plain (OpenSpec.upto proofApartSpec)) proofApartUptoCard

/-- THE SECOND FORM's CARD OF 'strongboxlaw13.ProofTells'. -/
def proofTellsUptoCard : Claim7 := { stood := { row := proofTellsUptoRow, standIns := [], harness := (true, "431074e11daeb3c77627fa0a4709c613a59ab0745bca06458e433377e48ad1aa"), looks := false }, kinds := [], alts := [], laidByText := true, laidKinds := [.data], laidTests := true, laidLooks := .later }
def ProofTellsUptoCardSaid : Prop := Claim7.holds Tryd.pinned (.plain (OpenSpec.upto proofTellsSpec)) proofTellsUptoCard

/-- THE SECOND FORM's CARD OF 'strongboxlaw13.ProofSamples'. -/
def proofSamplesUptoCard : Claim7 := { stood := { row := proofSamplesUptoRow, standIns := [], harness := (true, "431074e11daeb3c77627fa0a4709c613a59ab0745bca06458e433377e48ad1aa"), looks := false }, kinds := [], alts := [], laidByText := true, laidKinds := [.data], laidTests := true, laidLooks := .later }
def ProofSamplesUptoCardSaid : Prop := Claim7.holds Tryd.pinned (.plain (OpenSpec.upto proofSamplesSpec)) proofSamplesUptoCard

/-- THE SECOND FORM's CARD OF 'strongboxlaw13.ProofPlaces'. -/
def proofPlacesUptoCard : Claim7 := { stood := { row := proofPlacesUptoRow, standIns := [], harness := (true, "431074e11daeb3c77627fa0a4709c613a59ab0745bca06458e433377e48ad1aa"), looks := false }, kinds := [], alts := [], laidByText := true, laidKinds := [.data], laidTests := true, laidLooks := .later }
def ProofPlacesUptoCardSaid : Prop := Claim7.holds Tryd.pinned (.plain (OpenSpec.upto proofPlacesSpec)) proofPlacesUptoCard

/-- THE SECOND FORM's CARD OF 'strongboxlaw13.ProofBooks'. -/
def proofBooksUptoCard : Claim7 := { stood := { row := proofBooksUptoRow, standIns := [], harness := (true, "431074e11daeb3c77627fa0a4709c613a59ab0745bca06458e433377e48ad1aa"), looks := false }, kinds := [], alts := [], laidByText := true, laidKinds := [.data], laidTests := true, laidLooks := .later }
def ProofBooksUptoCardSaid : Prop := Claim7.holds Tryd.pinned (.plain (OpenSpec.upto proofBooksSpec)) proofBooksUptoCard
end Rows
end Go.Proofs.YtabgcgdpeikieaaDoor
