/-
  DERIVED. GIVEN WITH THE SEED: THE CARDS: each row of YtiokejnlioghiaaGreatDoorRows.lean that lists a variable, with what it lists TIED to the program's text (the seventh form; the later family's looks); each row that meets fmt, with fmt's text TOLD by the authors' own Lean function (tested against real Go, not proved from fmt's source: count such statements apart). THE CARD IS WHAT COUNTS. Prove the row's statement (the work); the ties are given (YtiokejnlioghiaaGreatDoorTie.lean); close each card by the builder's one call (the guide's Derived/Test/ToyasCard.lean, 'card_holds'). Laid BY PROGRAM, IN A SANDBOX (cutbox-door.mjs). By AI agents, Wed Nov 11 2026. No macro, syntax, notation, axiom, sorry.
-/
import Derived.Test.YtiokejnlioghiaaGreatDoorRows
import GoSem.ClaimSeven
namespace Go.Proofs.YtiokejnlioghiaaGreatDoor
namespace Rows

/-- THE TIED CARD OF 'strongboxlaw6.PoolOpens'. -/
def poolOpensCard : Claim7 := { stood := { row := poolOpensRow, standIns := [], harness := (true, "06263f76515a5d57295b9e94767f8651383f449d41c9f54bc8a27db372c90a14"), looks := true }, kinds := [], alts := [], laidByText := true, laidKinds := [.handle], laidTests := true, laidLooks := .later }
def PoolOpensCardSaid : Prop := Claim7.holds Tryz.pinned (.plain (OpenSpec.ofChange poolOpensSpec)) poolOpensCard

/-- THE SECOND FORM's CARD OF 'strongboxlaw6.PoolOpens'. -/
def poolOpensUptoCard : Claim7 := { stood := { row := poolOpensUptoRow, standIns := [], harness := (true, "06263f76515a5d57295b9e94767f8651383f449d41c9f54bc8a27db372c90a14"), looks := true }, kinds := [], alts := [], laidByText := true, laidKinds := [.handle], laidTests := true, laidLooks := .later }
def PoolOpensUptoCardSaid : Prop := Claim7.holds Tryz.pinned (.plain (OpenSpec.upto poolOpensSpec)) poolOpensUptoCard
end Rows
end Go.Proofs.YtiokejnlioghiaaGreatDoor
