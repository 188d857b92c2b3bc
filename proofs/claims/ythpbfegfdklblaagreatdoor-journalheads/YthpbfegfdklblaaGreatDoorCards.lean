/-
  DERIVED. GIVEN WITH THE SEED: THE CARDS: each row of YthpbfegfdklblaaGreatDoorRows.lean that lists a variable, with what it lists TIED to the program's text (the seventh form; the later family's looks); each row that meets fmt, with fmt's text TOLD by the authors' own Lean function (tested against real Go, not proved from fmt's source: count such statements apart). THE CARD IS WHAT COUNTS. Prove the row's statement (the work); the ties are given (YthpbfegfdklblaaGreatDoorTie.lean); close each card by the builder's one call (the guide's Derived/Test/ToyasCard.lean, 'card_holds'). Laid BY PROGRAM, IN A SANDBOX (cutbox-door.mjs). By AI agents, Wed Nov 11 2026. No macro, syntax, notation, axiom, sorry.
-/
import Derived.Test.YthpbfegfdklblaaGreatDoorRows
import GoSem.ClaimSeven
namespace Go.Proofs.YthpbfegfdklblaaGreatDoor
namespace Rows

/-- THE TIED CARD OF 'strongboxlaw5.JournalHeads'. -/
def journalHeadsCard : Claim7 := { stood := { row := journalHeadsRow, standIns := [], harness := (true, "bb5f18e7a2637b4fd79ed7736ee64dbf37d1e1ca74647e1dc206aabefd31affe"), looks := true }, kinds := [], alts := [], laidByText := true, laidKinds := [.handle], laidTests := true, laidLooks := .later }
def JournalHeadsCardSaid : Prop := Claim7.holds Tryz.pinned (.plain (OpenSpec.ofChange journalHeadsSpec)) journalHeadsCard

/-- THE SECOND FORM's CARD OF 'strongboxlaw5.JournalHeads'. -/
def journalHeadsUptoCard : Claim7 := { stood := { row := journalHeadsUptoRow, standIns := [], harness := (true, "bb5f18e7a2637b4fd79ed7736ee64dbf37d1e1ca74647e1dc206aabefd31affe"), looks := true }, kinds := [], alts := [], laidByText := true, laidKinds := [.handle], laidTests := true, laidLooks := .later }
def JournalHeadsUptoCardSaid : Prop := Claim7.holds Tryz.pinned (.plain (OpenSpec.upto journalHeadsSpec)) journalHeadsUptoCard
end Rows
end Go.Proofs.YthpbfegfdklblaaGreatDoor
