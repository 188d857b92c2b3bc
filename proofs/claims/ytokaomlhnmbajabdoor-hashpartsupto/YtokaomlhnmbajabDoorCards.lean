/-
  DERIVED. GIVEN WITH THE SEED: THE CARDS: each row of YtokaomlhnmbajabDoorRows.lean that lists a variable, with what it lists TIED to the program's text (the seventh form; the later family's looks); each row that meets fmt, with fmt's text TOLD by the authors' own Lean function (tested against real Go, not proved from fmt's source: count such statements apart). THE CARD IS WHAT COUNTS. Prove the row's statement (the work); the ties are given (YtokaomlhnmbajabDoorTie.lean); close each card by the builder's one call (the guide's Derived/Test/ToyasCard.lean, 'card_holds'). Laid BY PROGRAM, IN A SANDBOX (cutbox-door.mjs). By AI agents, Wed Nov 11 2026. No macro, syntax, notation, axiom, sorry.
-/
import Derived.Test.YtokaomlhnmbajabDoorRows
import GoSem.ClaimSeven
namespace Go.Proofs.YtokaomlhnmbajabDoor
namespace Rows

/-- THE TIED CARD OF 'strongboxlaw1.HashParts'. -/
def hashPartsCard : Claim7 := { stood := { row := hashPartsRow, standIns := [], harness := (true, "c34efcefba4c667c166f2fab1606bb228400dc7818cf9698aab1163e7311fc47"), looks := false }, kinds := [], alts := [], laidByText := true, laidKinds := [.data], laidTests := true, laidLooks := .later }
def HashPartsCardSaid : Prop := Claim7.holds Tryd.pinned (.plain (OpenSpec.ofChange hashPartsSpec)) hashPartsCard

/-- THE TIED CARD OF 'strongboxlaw1.HashDerives'. -/
def hashDerivesCard : Claim7 := { stood := { row := hashDerivesRow, standIns := [], harness := (true, "c34efcefba4c667c166f2fab1606bb228400dc7818cf9698aab1163e7311fc47"), looks := false }, kinds := [], alts := [], laidByText := true, laidKinds := [.data], laidTests := true, laidLooks := .later }
def HashDerivesCardSaid : Prop := Claim7.holds Tryd.pinned (.plain (OpenSpec.ofChange hashDerivesSpec)) hashDerivesCard

/-- THE SECOND FORM's CARD OF 'strongboxlaw1.HashParts'. -/
def hashPartsUptoCard : Claim7 := { stood := { row := hashPartsUptoRow, standIns := [], harness := (true, "c34efcefba4c667c166f2fab1606bb228400dc7818cf9698aab1163e7311fc47"), looks := false }, kinds := [], alts := [], laidByText := true, laidKinds := [.data], laidTests := true, laidLooks := .later }
def HashPartsUptoCardSaid : Prop := Claim7.holds Tryd.pinned (.plain (OpenSpec.upto hashPartsSpec)) hashPartsUptoCard

/-- THE SECOND FORM's CARD OF 'strongboxlaw1.HashDerives'. -/
def hashDerivesUptoCard : Claim7 := { stood := { row := hashDerivesUptoRow, standIns := [], harness := (true, "c34efcefba4c667c166f2fab1606bb228400dc7818cf9698aab1163e7311fc47"), looks := false }, kinds := [], alts := [], laidByText := true, laidKinds := [.data], laidTests := true, laidLooks := .later }
def HashDerivesUptoCardSaid : Prop := Claim7.holds Tryd.pinned (.plain (OpenSpec.upto hashDerivesSpec)) hashDerivesUptoCard
end Rows
end Go.Proofs.YtokaomlhnmbajabDoor
