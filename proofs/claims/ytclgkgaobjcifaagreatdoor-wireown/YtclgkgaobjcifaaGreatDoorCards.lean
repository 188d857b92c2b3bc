/-
  DERIVED. GIVEN WITH THE SEED: THE CARDS: each row of YtclgkgaobjcifaaGreatDoorRows.lean that lists a variable, with what it lists TIED to the program's text (the seventh form; the later family's looks); each row that meets fmt, with fmt's text TOLD by the authors' own Lean function (tested against real Go, not proved from fmt's source: count such statements apart). THE CARD IS WHAT COUNTS. Prove the row's statement (the work); the ties are given (YtclgkgaobjcifaaGreatDoorTie.lean); close each card by the builder's one call (the guide's Derived/Test/ToyasCard.lean, 'card_holds'). Laid BY PROGRAM, IN A SANDBOX (cutbox-door.mjs). By AI agents, Wed Nov 11 2026. No macro, syntax, notation, axiom, sorry.
-/
import Derived.Test.YtclgkgaobjcifaaGreatDoorRows
import GoSem.ClaimSeven
namespace Go.Proofs.YtclgkgaobjcifaaGreatDoor
namespace Rows

/-- THE TIED CARD OF 'strongboxlaw12.WireTurned'. -/
def wireTurnedCard : Claim7 := { stood := { row := wireTurnedRow, standIns := [], harness := (true, "2609d7522ba03fa35e07c996707449f41bf861b92dd2c6e98f2247f67fbeab65"), looks := true }, kinds := [], alts := [], laidByText := true, laidKinds := [.handle], laidTests := true, laidLooks := .later }
def WireTurnedCardSaid : Prop := Claim7.holds Tryz.pinned (.plain (OpenSpec.ofChange wireTurnedSpec)) wireTurnedCard

/-- THE TIED CARD OF 'strongboxlaw12.WireThrough'. -/
def wireThroughCard : Claim7 := { stood := { row := wireThroughRow, standIns := [], harness := (true, "2609d7522ba03fa35e07c996707449f41bf861b92dd2c6e98f2247f67fbeab65"), looks := true }, kinds := [], alts := [], laidByText := true, laidKinds := [.handle], laidTests := true, laidLooks := .later }
def WireThroughCardSaid : Prop := Claim7.holds Tryz.pinned (.plain (OpenSpec.ofChange wireThroughSpec)) wireThroughCard

/-- THE TIED CARD OF 'strongboxlaw12.WireTold'. -/
def wireToldCard : Claim7 := { stood := { row := wireToldRow, standIns := [], harness := (true, "2609d7522ba03fa35e07c996707449f41bf861b92dd2c6e98f2247f67fbeab65"), looks := true }, kinds := [], alts := [], laidByText := true, laidKinds := [.handle], laidTests := true, laidLooks := .later }
def WireToldCardSaid : Prop := Claim7.holds Tryz.pinned (.plain (OpenSpec.ofChange wireToldSpec)) wireToldCard

/-- THE TIED CARD OF 'strongboxlaw12.WireOwn'. -/
def wireOwnCard : Claim7 := { stood := { row := wireOwnRow, standIns := [], harness := (true, "2609d7522ba03fa35e07c996707449f41bf861b92dd2c6e98f2247f67fbeab65"), looks := true }, kinds := [], alts := [], laidByText := true, laidKinds := [.handle], laidTests := true, laidLooks := .later }
def WireOwnCardSaid : Prop := Claim7.holds Tryz.pinned (.plain (OpenSpec.ofChange wireOwnSpec)) wireOwnCard

/-- THE TIED CARD OF 'strongboxlaw12.WireSpoilt'. -/
def wireSpoiltCard : Claim7 := { stood := { row := wireSpoiltRow, standIns := [], harness := (true, "2609d7522ba03fa35e07c996707449f41bf861b92dd2c6e98f2247f67fbeab65"), looks := true }, kinds := [], alts := [], laidByText := true, laidKinds := [.handle], laidTests := true, laidLooks := .later }
def WireSpoiltCardSaid : Prop := Claim7.holds Tryz.pinned (.plain (OpenSpec.ofChange wireSpoiltSpec)) wireSpoiltCard

/-- THE SECOND FORM's CARD OF 'strongboxlaw12.WireTurned'. -/
def wireTurnedUptoCard : Claim7 := { stood := { row := wireTurnedUptoRow, standIns := [], harness := (true, "2609d7522ba03fa35e07c996707449f41bf861b92dd2c6e98f2247f67fbeab65"), looks := true }, kinds := [], alts := [], laidByText := true, laidKinds := [.handle], laidTests := true, laidLooks := .later }
def WireTurnedUptoCardSaid : Prop := Claim7.holds Tryz.pinned (.plain (OpenSpec.upto wireTurnedSpec)) wireTurnedUptoCard

/-- THE SECOND FORM's CARD OF 'strongboxlaw12.WireThrough'. -/
def wireThroughUptoCard : Claim7 := { stood := { row := wireThroughUptoRow, standIns := [], harness := (true, "2609d7522ba03fa35e07c996707449f41bf861b92dd2c6e98f2247f67fbeab65"), looks := true }, kinds := [], alts := [], laidByText := true, laidKinds := [.handle], laidTests := true, laidLooks := .later }
def WireThroughUptoCardSaid : Prop := Claim7.holds Tryz.pinned (.plain (OpenSpec.upto wireThroughSpec)) wireThroughUptoCard

/-- THE SECOND FORM's CARD OF 'strongboxlaw12.WireTold'. -/
def wireToldUptoCard : Claim7 := { stood := { row := wireToldUptoRow, standIns := [], harness := (true, "2609d7522ba03fa35e07c996707449f41bf861b92dd2c6e98f2247f67fbeab65"), looks := true }, kinds := [], alts := [], laidByText := true, laidKinds := [.handle], laidTests := true, laidLooks := .later }
def WireToldUptoCardSaid : Prop := Claim7.holds Tryz.pinned (.plain (OpenSpec.upto wireToldSpec)) wireToldUptoCard

/-- THE SECOND FORM's CARD OF 'strongboxlaw12.WireOwn'. -/
def wireOwnUptoCard : Claim7 := { stood := { row := wireOwnUptoRow, standIns := [], harness := (true, "2609d7522ba03fa35e07c996707449f41bf861b92dd2c6e98f2247f67fbeab65"), looks := true }, kinds := [], alts := [], laidByText := true, laidKinds := [.handle], laidTests := true, laidLooks := .later }
def WireOwnUptoCardSaid : Prop := Claim7.holds Tryz.pinned (.plain (OpenSpec.upto wireOwnSpec)) wireOwnUptoCard

/-- THE SECOND FORM's CARD OF 'strongboxlaw12.WireSpoilt'. -/
def wireSpoiltUptoCard : Claim7 := { stood := { row := wireSpoiltUptoRow, standIns := [], harness := (true, "2609d7522ba03fa35e07c996707449f41bf861b92dd2c6e98f2247f67fbeab65"), looks := true }, kinds := [], alts := [], laidByText := true, laidKinds := [.handle], laidTests := true, laidLooks := .later }
def WireSpoiltUptoCardSaid : Prop := Claim7.holds Tryz.pinned (.plain (OpenSpec.upto wireSpoiltSpec)) wireSpoiltUptoCard
end Rows
end Go.Proofs.YtclgkgaobjcifaaGreatDoor
