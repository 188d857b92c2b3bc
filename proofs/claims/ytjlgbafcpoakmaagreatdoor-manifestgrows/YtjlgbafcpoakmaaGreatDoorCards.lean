/-
  DERIVED. GIVEN WITH THE SEED: THE CARDS: each row of YtjlgbafcpoakmaaGreatDoorRows.lean that lists a variable, with what it lists TIED to the program's text (the seventh form; the later family's looks); each row that meets fmt, with fmt's text TOLD by the authors' own Lean function (tested against real Go, not proved from fmt's source: count such statements apart). THE CARD IS WHAT COUNTS. Prove the row's statement (the work); the ties are given (YtjlgbafcpoakmaaGreatDoorTie.lean); close each card by the builder's one call (the guide's Derived/Test/ToyasCard.lean, 'card_holds'). Laid BY PROGRAM, IN A SANDBOX (cutbox-door.mjs). By AI agents, Wed Nov 11 2026. No macro, syntax, notation, axiom, sorry.
-/
import Derived.Test.YtjlgbafcpoakmaaGreatDoorRows
import GoSem.ClaimSeven
namespace Go.Proofs.YtjlgbafcpoakmaaGreatDoor
namespace Rows

/-- THE TIED CARD OF 'strongboxlaw10.ManifestGrows'. -/
def manifestGrowsCard : Claim7 := { stood := { row := manifestGrowsRow, standIns := [], harness := (true, "d33443a67df208a8e32e77b07f1fba651f7a97be26b78c7799aee8733ee60360"), looks := true }, kinds := [], alts := [], laidByText := true, laidKinds := [.handle], laidTests := true, laidLooks := .later }
def ManifestGrowsCardSaid : Prop := Claim7.holds Tryz.pinned (.plain (OpenSpec.ofChange manifestGrowsSpec)) manifestGrowsCard

/-- THE TIED CARD OF 'strongboxlaw10.ManifestRoots'. -/
def manifestRootsCard : Claim7 := { stood := { row := manifestRootsRow, standIns := [], harness := (true, "d33443a67df208a8e32e77b07f1fba651f7a97be26b78c7799aee8733ee60360"), looks := true }, kinds := [], alts := [], laidByText := true, laidKinds := [.handle], laidTests := true, laidLooks := .later }
def ManifestRootsCardSaid : Prop := Claim7.holds Tryz.pinned (.plain (OpenSpec.ofChange manifestRootsSpec)) manifestRootsCard

/-- THE TIED CARD OF 'strongboxlaw10.ManifestMaps'. -/
def manifestMapsCard : Claim7 := { stood := { row := manifestMapsRow, standIns := [], harness := (true, "d33443a67df208a8e32e77b07f1fba651f7a97be26b78c7799aee8733ee60360"), looks := true }, kinds := [], alts := [], laidByText := true, laidKinds := [.handle], laidTests := true, laidLooks := .later }
def ManifestMapsCardSaid : Prop := Claim7.holds Tryz.pinned (.plain (OpenSpec.ofChange manifestMapsSpec)) manifestMapsCard

/-- THE TIED CARD OF 'strongboxlaw10.ManifestSurvives'. -/
def manifestSurvivesCard : Claim7 := { stood := { row := manifestSurvivesRow, standIns := [], harness := (true, "d33443a67df208a8e32e77b07f1fba651f7a97be26b78c7799aee8733ee60360"), looks := true }, kinds := [], alts := [], laidByText := true, laidKinds := [.handle], laidTests := true, laidLooks := .later }
def ManifestSurvivesCardSaid : Prop := Claim7.holds Tryz.pinned (.plain (OpenSpec.ofChange manifestSurvivesSpec)) manifestSurvivesCard

/-- THE TIED CARD OF 'strongboxlaw10.ManifestPlays'. -/
def manifestPlaysCard : Claim7 := { stood := { row := manifestPlaysRow, standIns := [], harness := (true, "d33443a67df208a8e32e77b07f1fba651f7a97be26b78c7799aee8733ee60360"), looks := true }, kinds := [], alts := [], laidByText := true, laidKinds := [.handle], laidTests := true, laidLooks := .later }
def ManifestPlaysCardSaid : Prop := Claim7.holds Tryz.pinned (.plain (OpenSpec.ofChange manifestPlaysSpec)) manifestPlaysCard

/-- THE SECOND FORM's CARD OF 'strongboxlaw10.ManifestGrows'. -/
def manifestGrowsUptoCard : Claim7 := { stood := { row := manifestGrowsUptoRow, standIns := [], harness := (true, "d33443a67df208a8e32e77b07f1fba651f7a97be26b78c7799aee8733ee60360"), looks := true }, kinds := [], alts := [], laidByText := true, laidKinds := [.handle], laidTests := true, laidLooks := .later }
def ManifestGrowsUptoCardSaid : Prop := Claim7.holds Tryz.pinned (.plain (OpenSpec.upto manifestGrowsSpec)) manifestGrowsUptoCard

/-- THE SECOND FORM's CARD OF 'strongboxlaw10.ManifestRoots'. -/
def manifestRootsUptoCard : Claim7 := { stood := { row := manifestRootsUptoRow, standIns := [], harness := (true, "d33443a67df208a8e32e77b07f1fba651f7a97be26b78c7799aee8733ee60360"), looks := true }, kinds := [], alts := [], laidByText := true, laidKinds := [.handle], laidTests := true, laidLooks := .later }
def ManifestRootsUptoCardSaid : Prop := Claim7.holds Tryz.pinned (.plain (OpenSpec.upto manifestRootsSpec)) manifestRootsUptoCard

/-- THE SECOND FORM's CARD OF 'strongboxlaw10.ManifestMaps'. -/
def manifestMapsUptoCard : Claim7 := { stood := { row := manifestMapsUptoRow, standIns := [], harness := (true, "d33443a67df208a8e32e77b07f1fba651f7a97be26b78c7799aee8733ee60360"), looks := true }, kinds := [], alts := [], laidByText := true, laidKinds := [.handle], laidTests := true, laidLooks := .later }
def ManifestMapsUptoCardSaid : Prop := Claim7.holds Tryz.pinned (.plain (OpenSpec.upto manifestMapsSpec)) manifestMapsUptoCard

/-- THE SECOND FORM's CARD OF 'strongboxlaw10.ManifestSurvives'. -/
def manifestSurvivesUptoCard : Claim7 := { stood := { row := manifestSurvivesUptoRow, standIns := [], harness := (true, "d33443a67df208a8e32e77b07f1fba651f7a97be26b78c7799aee8733ee60360"), looks := true }, kinds := [], alts := [], laidByText := true, laidKinds := [.handle], laidTests := true, laidLooks := .later }
def ManifestSurvivesUptoCardSaid : Prop := Claim7.holds Tryz.pinned (.plain (OpenSpec.upto manifestSurvivesSpec)) manifestSurvivesUptoCard

/-- THE SECOND FORM's CARD OF 'strongboxlaw10.ManifestPlays'. -/
def manifestPlaysUptoCard : Claim7 := { stood := { row := manifestPlaysUptoRow, standIns := [], harness := (true, "d33443a67df208a8e32e77b07f1fba651f7a97be26b78c7799aee8733ee60360"), looks := true }, kinds := [], alts := [], laidByText := true, laidKinds := [.handle], laidTests := true, laidLooks := .later }
def ManifestPlaysUptoCardSaid : Prop := Claim7.holds Tryz.pinned (.plain (OpenSpec.upto manifestPlaysSpec)) manifestPlaysUptoCard
end Rows
end Go.Proofs.YtjlgbafcpoakmaaGreatDoor
