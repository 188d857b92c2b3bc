/-
  DERIVED. GIVEN WITH THE SEED: THE CARDS: each row of YtifjmldmilmfjaaGreatDoorRows.lean that lists a variable, with what it lists TIED to the program's text (the seventh form; the later family's looks); each row that meets fmt, with fmt's text TOLD by the authors' own Lean function (tested against real Go, not proved from fmt's source: count such statements apart). THE CARD IS WHAT COUNTS. Prove the row's statement (the work); the ties are given (YtifjmldmilmfjaaGreatDoorTie.lean); close each card by the builder's one call (the guide's Derived/Test/ToyasCard.lean, 'card_holds'). Laid BY PROGRAM, IN A SANDBOX (cutbox-door.mjs). By AI agents, Wed Nov 11 2026. No macro, syntax, notation, axiom, sorry.
-/
import Derived.Test.YtifjmldmilmfjaaGreatDoorRows
import GoSem.ClaimSeven
namespace Go.Proofs.YtifjmldmilmfjaaGreatDoor
namespace Rows

/-- THE TIED CARD OF 'strongboxlaw21.LinkAll'. -/
def linkAllCard : Claim7 := { stood := { row := linkAllRow, standIns := [], harness := (true, "203f81069a3fff621cc4f22eed8e82f548bc0dcf2cf2d7927346385b4a9072b7"), looks := true }, kinds := [], alts := [], laidByText := true, laidKinds := [.data, .handle], laidTests := true, laidLooks := .later }
def LinkAllCardSaid : Prop := Claim7.holds Tryz.pinned (.plain (OpenSpec.ofChange linkAllSpec)) linkAllCard

/-- THE TIED CARD OF 'strongboxlaw21.LinkOnce'. -/
def linkOnceCard : Claim7 := { stood := { row := linkOnceRow, standIns := [], harness := (true, "203f81069a3fff621cc4f22eed8e82f548bc0dcf2cf2d7927346385b4a9072b7"), looks := true }, kinds := [], alts := [], laidByText := true, laidKinds := [.data, .handle], laidTests := true, laidLooks := .later }
def LinkOnceCardSaid : Prop := Claim7.holds Tryz.pinned (.plain (OpenSpec.ofChange linkOnceSpec)) linkOnceCard

/-- THE TIED CARD OF 'strongboxlaw21.LinkClosed'. -/
def linkClosedCard : Claim7 := { stood := { row := linkClosedRow, standIns := [], harness := (true, "203f81069a3fff621cc4f22eed8e82f548bc0dcf2cf2d7927346385b4a9072b7"), looks := true }, kinds := [], alts := [], laidByText := true, laidKinds := [.data, .handle], laidTests := true, laidLooks := .later }
def LinkClosedCardSaid : Prop := Claim7.holds Tryz.pinned (.plain (OpenSpec.ofChange linkClosedSpec)) linkClosedCard

/-- THE TIED CARD OF 'strongboxlaw21.LinkMakes'. -/
def linkMakesCard : Claim7 := { stood := { row := linkMakesRow, standIns := [], harness := (true, "203f81069a3fff621cc4f22eed8e82f548bc0dcf2cf2d7927346385b4a9072b7"), looks := true }, kinds := [], alts := [], laidByText := true, laidKinds := [.data, .handle], laidTests := true, laidLooks := .later }
def LinkMakesCardSaid : Prop := Claim7.holds Tryz.pinned (.plain (OpenSpec.ofChange linkMakesSpec)) linkMakesCard

/-- THE TIED CARD OF 'strongboxlaw21.LinkPlays'. -/
def linkPlaysCard : Claim7 := { stood := { row := linkPlaysRow, standIns := [], harness := (true, "203f81069a3fff621cc4f22eed8e82f548bc0dcf2cf2d7927346385b4a9072b7"), looks := true }, kinds := [], alts := [], laidByText := true, laidKinds := [.data, .handle], laidTests := true, laidLooks := .later }
def LinkPlaysCardSaid : Prop := Claim7.holds Tryz.pinned (.plain (OpenSpec.ofChange linkPlaysSpec)) linkPlaysCard

/-- THE SECOND FORM's CARD OF 'strongboxlaw21.LinkAll'. -/
def linkAllUptoCard : Claim7 := { stood := { row := linkAllUptoRow, standIns := [], harness := (true, "203f81069a3fff621cc4f22eed8e82f548bc0dcf2cf2d7927346385b4a9072b7"), looks := true }, kinds := [], alts := [], laidByText := true, laidKinds := [.data, .handle], laidTests := true, laidLooks := .later }
def LinkAllUptoCardSaid : Prop := Claim7.holds Tryz.pinned (.plain (OpenSpec.upto linkAllSpec)) linkAllUptoCard

/-- THE SECOND FORM's CARD OF 'strongboxlaw21.LinkOnce'. -/
def linkOnceUptoCard : Claim7 := { stood := { row := linkOnceUptoRow, standIns := [], harness := (true, "203f81069a3fff621cc4f22eed8e82f548bc0dcf2cf2d7927346385b4a9072b7"), looks := true }, kinds := [], alts := [], laidByText := true, laidKinds := [.data, .handle], laidTests := true, laidLooks := .later }
def LinkOnceUptoCardSaid : Prop := Claim7.holds Tryz.pinned (.plain (OpenSpec.upto linkOnceSpec)) linkOnceUptoCard

/-- THE SECOND FORM's CARD OF 'strongboxlaw21.LinkClosed'. -/
def linkClosedUptoCard : Claim7 := { stood := { row := linkClosedUptoRow, standIns := [], harness := (true, "203f81069a3fff621cc4f22eed8e82f548bc0dcf2cf2d7927346385b4a9072b7"), looks := true }, kinds := [], alts := [], laidByText := true, laidKinds := [.data, .handle], laidTests := true, laidLooks := .later }
def LinkClosedUptoCardSaid : Prop := Claim7.holds Tryz.pinned (.plain (OpenSpec.upto linkClosedSpec)) linkClosedUptoCard

/-- THE SECOND FORM's CARD OF 'strongboxlaw21.LinkMakes'. -/
def linkMakesUptoCard : Claim7 := { stood := { row := linkMakesUptoRow, standIns := [], harness := (true, "203f81069a3fff621cc4f22eed8e82f548bc0dcf2cf2d7927346385b4a9072b7"), looks := true }, kinds := [], alts := [], laidByText := true, laidKinds := [.data, .handle], laidTests := true, laidLooks := .later }
def LinkMakesUptoCardSaid : Prop := Claim7.holds Tryz.pinned (.plain (OpenSpec.upto linkMakesSpec)) linkMakesUptoCard

/-- THE SECOND FORM's CARD OF 'strongboxlaw21.LinkPlays'. -/
def linkPlaysUptoCard : Claim7 := { stood := { row := linkPlaysUptoRow, standIns := [], harness := (true, "203f81069a3fff621cc4f22eed8e82f548bc0dcf2cf2d7927346385b4a9072b7"), looks := true }, kinds := [], alts := [], laidByText := true, laidKinds := [.data, .handle], laidTests := true, laidLooks := .later }
def LinkPlaysUptoCardSaid : Prop := Claim7.holds Tryz.pinned (.plain (OpenSpec.upto linkPlaysSpec)) linkPlaysUptoCard
end Rows
end Go.Proofs.YtifjmldmilmfjaaGreatDoor
