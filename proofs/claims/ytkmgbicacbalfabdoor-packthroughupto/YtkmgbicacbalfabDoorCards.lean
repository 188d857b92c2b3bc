/-
  DERIVED. GIVEN WITH THE SEED: THE CARDS: each row of YtkmgbicacbalfabDoorRows.lean that lists a variable, with what it lists TIED to the program's text (the seventh form; the later family's looks); each row that meets fmt, with fmt's text TOLD by the authors' own Lean function (tested against real Go, not proved from fmt's source: count such statements apart). THE CARD IS WHAT COUNTS. Prove the row's statement (the work); the ties are given (YtkmgbicacbalfabDoorTie.lean); close each card by the builder's one call (the guide's Derived/Test/ToyasCard.lean, 'card_holds'). Laid BY PROGRAM, IN A SANDBOX (cutbox-door.mjs). By AI agents, Wed Nov 11 2026. No macro, syntax, notation, axiom, sorry.
-/
import Derived.Test.YtkmgbicacbalfabDoorRows
import GoSem.ClaimSeven
namespace Go.Proofs.YtkmgbicacbalfabDoor
namespace Rows

/-- THE TIED CARD OF 'strongboxlaw3.PackThrough'. -/
def packThroughCard : Claim7 := { stood := { row := packThroughRow, standIns := [], harness := (true, "8ceb74eae5a0ab91bc96e77978462876e18461767044926451a67d39eebc8752"), looks := true }, kinds := [], alts := [], laidByText := true, laidKinds := [.handle], laidTests := true, laidLooks := .later }
def PackThroughCardSaid : Prop := Claim7.holds Tryd.pinned (.plain (OpenSpec.ofChange packThroughSpec)) packThroughCard

/-- THE TIED CARD OF 'strongboxlaw3.PackParses'. -/
def packParsesCard : Claim7 := { stood := { row := packParsesRow, standIns := [], harness := (true, "8ceb74eae5a0ab91bc96e77978462876e18461767044926451a67d39eebc8752"), looks := true }, kinds := [], alts := [], laidByText := true, laidKinds := [.handle], laidTests := true, laidLooks := .later }
def PackParsesCardSaid : Prop := Claim7.holds Tryd.pinned (.plain (OpenSpec.ofChange packParsesSpec)) packParsesCard

/-- THE TIED CARD OF 'strongboxlaw3.PackTurned'. -/
def packTurnedCard : Claim7 := { stood := { row := packTurnedRow, standIns := [], harness := (true, "8ceb74eae5a0ab91bc96e77978462876e18461767044926451a67d39eebc8752"), looks := true }, kinds := [], alts := [], laidByText := true, laidKinds := [.handle], laidTests := true, laidLooks := .later }
def PackTurnedCardSaid : Prop := Claim7.holds Tryd.pinned (.plain (OpenSpec.ofChange packTurnedSpec)) packTurnedCard

/-- THE TIED CARD OF 'strongboxlaw3.PackMakes'. -/
def packMakesCard : Claim7 := { stood := { row := packMakesRow, standIns := [], harness := (true, "8ceb74eae5a0ab91bc96e77978462876e18461767044926451a67d39eebc8752"), looks := true }, kinds := [], alts := [], laidByText := true, laidKinds := [.handle], laidTests := true, laidLooks := .later }
def PackMakesCardSaid : Prop := Claim7.holds Tryd.pinned (.plain (OpenSpec.ofChange packMakesSpec)) packMakesCard

/-- THE TIED CARD OF 'strongboxlaw3.PackRecord'. -/
def packRecordCard : Claim7 := { stood := { row := packRecordRow, standIns := [], harness := (true, "8ceb74eae5a0ab91bc96e77978462876e18461767044926451a67d39eebc8752"), looks := true }, kinds := [], alts := [], laidByText := true, laidKinds := [.handle], laidTests := true, laidLooks := .later }
def PackRecordCardSaid : Prop := Claim7.holds Tryd.pinned (.plain (OpenSpec.ofChange packRecordSpec)) packRecordCard

/-- THE SECOND FORM's CARD OF 'strongboxlaw3.PackThrough'. -/
def packThroughUptoCard : Claim7 := { stood := { row := packThroughUptoRow, standIns := [], harness := (true, "8ceb74eae5a0ab91bc96e77978462876e18461767044926451a67d39eebc8752"), looks := true }, kinds := [], alts := [], laidByText := true, laidKinds := [.handle], laidTests := true, laidLooks := .later }
def PackThroughUptoCardSaid : Prop := Claim7.holds Tryd.pinned (.plain (OpenSpec.upto packThroughSpec)) packThroughUptoCard

/-- THE SECOND FORM's CARD OF 'strongboxlaw3.PackParses'. -/
def packParsesUptoCard : Claim7 := { stood := { row := packParsesUptoRow, standIns := [], harness := (true, "8ceb74eae5a0ab91bc96e77978462876e18461767044926451a67d39eebc8752"), looks := true }, kinds := [], alts := [], laidByText := true, laidKinds := [.handle], laidTests := true, laidLooks := .later }
def PackParsesUptoCardSaid : Prop := Claim7.holds Tryd.pinned (.plain (OpenSpec.upto packParsesSpec)) packParsesUptoCard

/-- THE SECOND FORM's CARD OF 'strongboxlaw3.PackTurned'. -/
def packTurnedUptoCard : Claim7 := { stood := { row := packTurnedUptoRow, standIns := [], harness := (true, "8ceb74eae5a0ab91bc96e77978462876e18461767044926451a67d39eebc8752"), looks := true }, kinds := [], alts := [], laidByText := true, laidKinds := [.handle], laidTests := true, laidLooks := .later }
def PackTurnedUptoCardSaid : Prop := Claim7.holds Tryd.pinned (.plain (OpenSpec.upto packTurnedSpec)) packTurnedUptoCard

/-- THE SECOND FORM's CARD OF 'strongboxlaw3.PackMakes'. -/
def packMakesUptoCard : Claim7 := { stood := { row := packMakesUptoRow, standIns := [], harness := (true, "8ceb74eae5a0ab91bc96e77978462876e18461767044926451a67d39eebc8752"), looks := true }, kinds := [], alts := [], laidByText := true, laidKinds := [.handle], laidTests := true, laidLooks := .later }
def PackMakesUptoCardSaid : Prop := Claim7.holds Tryd.pinned (.plain (OpenSpec.upto packMakesSpec)) packMakesUptoCard

/-- THE SECOND FORM's CARD OF 'strongboxlaw3.PackRecord'. -/
def packRecordUptoCard : Claim7 := { stood := { row := packRecordUptoRow, standIns := [], harness := (true, "8ceb74eae5a0ab91bc96e77978462876e18461767044926451a67d39eebc8752"), looks := true }, kinds := [], alts := [], laidByText := true, laidKinds := [.handle], laidTests := true, laidLooks := .later }
def PackRecordUptoCardSaid : Prop := Claim7.holds Tryd.pinned (.plain (OpenSpec.upto packRecordSpec)) packRecordUptoCard
end Rows
end Go.Proofs.YtkmgbicacbalfabDoor
