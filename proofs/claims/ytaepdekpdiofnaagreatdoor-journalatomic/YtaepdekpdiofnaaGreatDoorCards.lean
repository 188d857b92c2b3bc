/-
  DERIVED. GIVEN WITH THE SEED: THE CARDS: each row of YtaepdekpdiofnaaGreatDoorRows.lean that lists a variable, with what it lists TIED to the program's text (the seventh form; the later family's looks); each row that meets fmt, with fmt's text TOLD by the authors' own Lean function (tested against real Go, not proved from fmt's source: count such statements apart). THE CARD IS WHAT COUNTS. Prove the row's statement (the work); the ties are given (YtaepdekpdiofnaaGreatDoorTie.lean); close each card by the builder's one call (the guide's Derived/Test/ToyasCard.lean, 'card_holds'). Laid BY PROGRAM, IN A SANDBOX (cutbox-door.mjs). By AI agents, Wed Nov 11 2026. No macro, syntax, notation, axiom, sorry.
-/
import Derived.Test.YtaepdekpdiofnaaGreatDoorRows
import GoSem.ClaimSeven
namespace Go.Proofs.YtaepdekpdiofnaaGreatDoor
namespace Rows

/-- THE TIED CARD OF 'strongboxlaw5.JournalShape'. -/
def journalShapeCard : Claim7 := { stood := { row := journalShapeRow, standIns := [], harness := (true, "f6e1473d75abde56f6f8217a92c3b8dadae0ac0f5437d95d833d5b24d15276cd"), looks := true }, kinds := [], alts := [], laidByText := true, laidKinds := [.handle], laidTests := true, laidLooks := .later }
def JournalShapeCardSaid : Prop := Claim7.holds Tryz.pinned (.plain (OpenSpec.ofChange journalShapeSpec)) journalShapeCard

/-- THE TIED CARD OF 'strongboxlaw5.JournalPages'. -/
def journalPagesCard : Claim7 := { stood := { row := journalPagesRow, standIns := [], harness := (true, "f6e1473d75abde56f6f8217a92c3b8dadae0ac0f5437d95d833d5b24d15276cd"), looks := true }, kinds := [], alts := [], laidByText := true, laidKinds := [.handle], laidTests := true, laidLooks := .later }
def JournalPagesCardSaid : Prop := Claim7.holds Tryz.pinned (.plain (OpenSpec.ofChange journalPagesSpec)) journalPagesCard

/-- THE TIED CARD OF 'strongboxlaw5.JournalLasts'. -/
def journalLastsCard : Claim7 := { stood := { row := journalLastsRow, standIns := [], harness := (true, "f6e1473d75abde56f6f8217a92c3b8dadae0ac0f5437d95d833d5b24d15276cd"), looks := true }, kinds := [], alts := [], laidByText := true, laidKinds := [.handle], laidTests := true, laidLooks := .later }
def JournalLastsCardSaid : Prop := Claim7.holds Tryz.pinned (.plain (OpenSpec.ofChange journalLastsSpec)) journalLastsCard

/-- THE TIED CARD OF 'strongboxlaw5.JournalAtomic'. -/
def journalAtomicCard : Claim7 := { stood := { row := journalAtomicRow, standIns := [], harness := (true, "f6e1473d75abde56f6f8217a92c3b8dadae0ac0f5437d95d833d5b24d15276cd"), looks := true }, kinds := [], alts := [], laidByText := true, laidKinds := [.handle], laidTests := true, laidLooks := .later }
def JournalAtomicCardSaid : Prop := Claim7.holds Tryz.pinned (.plain (OpenSpec.ofChange journalAtomicSpec)) journalAtomicCard

/-- THE TIED CARD OF 'strongboxlaw5.JournalPlays'. -/
def journalPlaysCard : Claim7 := { stood := { row := journalPlaysRow, standIns := [], harness := (true, "f6e1473d75abde56f6f8217a92c3b8dadae0ac0f5437d95d833d5b24d15276cd"), looks := true }, kinds := [], alts := [], laidByText := true, laidKinds := [.handle], laidTests := true, laidLooks := .later }
def JournalPlaysCardSaid : Prop := Claim7.holds Tryz.pinned (.plain (OpenSpec.ofChange journalPlaysSpec)) journalPlaysCard

/-- THE TIED CARD OF 'strongboxlaw5.JournalHeads'. -/
def journalHeadsCard : Claim7 := { stood := { row := journalHeadsRow, standIns := [], harness := (true, "f6e1473d75abde56f6f8217a92c3b8dadae0ac0f5437d95d833d5b24d15276cd"), looks := true }, kinds := [], alts := [], laidByText := true, laidKinds := [.handle], laidTests := true, laidLooks := .later }
def JournalHeadsCardSaid : Prop := Claim7.holds Tryz.pinned (.plain (OpenSpec.ofChange journalHeadsSpec)) journalHeadsCard

/-- THE SECOND FORM's CARD OF 'strongboxlaw5.JournalShape'. -/
def journalShapeUptoCard : Claim7 := { stood := { row := journalShapeUptoRow, standIns := [], harness := (true, "f6e1473d75abde56f6f8217a92c3b8dadae0ac0f5437d95d833d5b24d15276cd"), looks := true }, kinds := [], alts := [], laidByText := true, laidKinds := [.handle], laidTests := true, laidLooks := .later }
def JournalShapeUptoCardSaid : Prop := Claim7.holds Tryz.pinned (.plain (OpenSpec.upto journalShapeSpec)) journalShapeUptoCard

/-- THE SECOND FORM's CARD OF 'strongboxlaw5.JournalPages'. -/
def journalPagesUptoCard : Claim7 := { stood := { row := journalPagesUptoRow, standIns := [], harness := (true, "f6e1473d75abde56f6f8217a92c3b8dadae0ac0f5437d95d833d5b24d15276cd"), looks := true }, kinds := [], alts := [], laidByText := true, laidKinds := [.handle], laidTests := true, laidLooks := .later }
def JournalPagesUptoCardSaid : Prop := Claim7.holds Tryz.pinned (.plain (OpenSpec.upto journalPagesSpec)) journalPagesUptoCard

/-- THE SECOND FORM's CARD OF 'strongboxlaw5.JournalLasts'. -/
def journalLastsUptoCard : Claim7 := { stood := { row := journalLastsUptoRow, standIns := [], harness := (true, "f6e1473d75abde56f6f8217a92c3b8dadae0ac0f5437d95d833d5b24d15276cd"), looks := true }, kinds := [], alts := [], laidByText := true, laidKinds := [.handle], laidTests := true, laidLooks := .later }
def JournalLastsUptoCardSaid : Prop := Claim7.holds Tryz.pinned (.plain (OpenSpec.upto journalLastsSpec)) journalLastsUptoCard

/-- THE SECOND FORM's CARD OF 'strongboxlaw5.JournalAtomic'. -/
def journalAtomicUptoCard : Claim7 := { stood := { row := journalAtomicUptoRow, standIns := [], harness := (true, "f6e1473d75abde56f6f8217a92c3b8dadae0ac0f5437d95d833d5b24d15276cd"), looks := true }, kinds := [], alts := [], laidByText := true, laidKinds := [.handle], laidTests := true, laidLooks := .later }
def JournalAtomicUptoCardSaid : Prop := Claim7.holds Tryz.pinned (.plain (OpenSpec.upto journalAtomicSpec)) journalAtomicUptoCard

/-- THE SECOND FORM's CARD OF 'strongboxlaw5.JournalPlays'. -/
def journalPlaysUptoCard : Claim7 := { stood := { row := journalPlaysUptoRow, standIns := [], harness := (true, "f6e1473d75abde56f6f8217a92c3b8dadae0ac0f5437d95d833d5b24d15276cd"), looks := true }, kinds := [], alts := [], laidByText := true, laidKinds := [.handle], laidTests := true, laidLooks := .later }
def JournalPlaysUptoCardSaid : Prop := Claim7.holds Tryz.pinned (.plain (OpenSpec.upto journalPlaysSpec)) journalPlaysUptoCard

/-- THE SECOND FORM's CARD OF 'strongboxlaw5.JournalHeads'. -/
def journalHeadsUptoCard : Claim7 := { stood := { row := journalHeadsUptoRow, standIns := [], harness := (true, "f6e1473d75abde56f6f8217a92c3b8dadae0ac0f5437d95d833d5b24d15276cd"), looks := true }, kinds := [], alts := [], laidByText := true, laidKinds := [.handle], laidTests := true, laidLooks := .later }
def JournalHeadsUptoCardSaid : Prop := Claim7.holds Tryz.pinned (.plain (OpenSpec.upto journalHeadsSpec)) journalHeadsUptoCard
end Rows
end Go.Proofs.YtaepdekpdiofnaaGreatDoor
