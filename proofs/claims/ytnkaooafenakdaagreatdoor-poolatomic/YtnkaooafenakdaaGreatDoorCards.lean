/-
  DERIVED. GIVEN WITH THE SEED: THE CARDS: each row of YtnkaooafenakdaaGreatDoorRows.lean that lists a variable, with what it lists TIED to the program's text (the seventh form; the later family's looks); each row that meets fmt, with fmt's text TOLD by the authors' own Lean function (tested against real Go, not proved from fmt's source: count such statements apart). THE CARD IS WHAT COUNTS. Prove the row's statement (the work); the ties are given (YtnkaooafenakdaaGreatDoorTie.lean); close each card by the builder's one call (the guide's Derived/Test/ToyasCard.lean, 'card_holds'). Laid BY PROGRAM, IN A SANDBOX (cutbox-door.mjs). By AI agents, Wed Nov 11 2026. No macro, syntax, notation, axiom, sorry.
-/
import Derived.Test.YtnkaooafenakdaaGreatDoorRows
import GoSem.ClaimSeven
namespace Go.Proofs.YtnkaooafenakdaaGreatDoor
namespace Rows

/-- THE TIED CARD OF 'strongboxlaw6.PoolFull'. -/
def poolFullCard : Claim7 := { stood := { row := poolFullRow, standIns := [], harness := (true, "f0fa5d07f8c73b82f1835f9880f75dae040659d3a477480f9dce176d2b2c0708"), looks := true }, kinds := [], alts := [], laidByText := true, laidKinds := [.handle], laidTests := true, laidLooks := .later }
def PoolFullCardSaid : Prop := Claim7.holds Tryz.pinned (.plain (OpenSpec.ofChange poolFullSpec)) poolFullCard

/-- THE TIED CARD OF 'strongboxlaw6.PoolSees'. -/
def poolSeesCard : Claim7 := { stood := { row := poolSeesRow, standIns := [], harness := (true, "f0fa5d07f8c73b82f1835f9880f75dae040659d3a477480f9dce176d2b2c0708"), looks := true }, kinds := [], alts := [], laidByText := true, laidKinds := [.handle], laidTests := true, laidLooks := .later }
def PoolSeesCardSaid : Prop := Claim7.holds Tryz.pinned (.plain (OpenSpec.ofChange poolSeesSpec)) poolSeesCard

/-- THE TIED CARD OF 'strongboxlaw6.PoolKeeps'. -/
def poolKeepsCard : Claim7 := { stood := { row := poolKeepsRow, standIns := [], harness := (true, "f0fa5d07f8c73b82f1835f9880f75dae040659d3a477480f9dce176d2b2c0708"), looks := true }, kinds := [], alts := [], laidByText := true, laidKinds := [.handle], laidTests := true, laidLooks := .later }
def PoolKeepsCardSaid : Prop := Claim7.holds Tryz.pinned (.plain (OpenSpec.ofChange poolKeepsSpec)) poolKeepsCard

/-- THE TIED CARD OF 'strongboxlaw6.PoolShape'. -/
def poolShapeCard : Claim7 := { stood := { row := poolShapeRow, standIns := [], harness := (true, "f0fa5d07f8c73b82f1835f9880f75dae040659d3a477480f9dce176d2b2c0708"), looks := true }, kinds := [], alts := [], laidByText := true, laidKinds := [.handle], laidTests := true, laidLooks := .later }
def PoolShapeCardSaid : Prop := Claim7.holds Tryz.pinned (.plain (OpenSpec.ofChange poolShapeSpec)) poolShapeCard

/-- THE TIED CARD OF 'strongboxlaw6.PoolAtomic'. -/
def poolAtomicCard : Claim7 := { stood := { row := poolAtomicRow, standIns := [], harness := (true, "f0fa5d07f8c73b82f1835f9880f75dae040659d3a477480f9dce176d2b2c0708"), looks := true }, kinds := [], alts := [], laidByText := true, laidKinds := [.handle], laidTests := true, laidLooks := .later }
def PoolAtomicCardSaid : Prop := Claim7.holds Tryz.pinned (.plain (OpenSpec.ofChange poolAtomicSpec)) poolAtomicCard

/-- THE TIED CARD OF 'strongboxlaw6.PoolOpens'. -/
def poolOpensCard : Claim7 := { stood := { row := poolOpensRow, standIns := [], harness := (true, "f0fa5d07f8c73b82f1835f9880f75dae040659d3a477480f9dce176d2b2c0708"), looks := true }, kinds := [], alts := [], laidByText := true, laidKinds := [.handle], laidTests := true, laidLooks := .later }
def PoolOpensCardSaid : Prop := Claim7.holds Tryz.pinned (.plain (OpenSpec.ofChange poolOpensSpec)) poolOpensCard

/-- THE SECOND FORM's CARD OF 'strongboxlaw6.PoolFull'. -/
def poolFullUptoCard : Claim7 := { stood := { row := poolFullUptoRow, standIns := [], harness := (true, "f0fa5d07f8c73b82f1835f9880f75dae040659d3a477480f9dce176d2b2c0708"), looks := true }, kinds := [], alts := [], laidByText := true, laidKinds := [.handle], laidTests := true, laidLooks := .later }
def PoolFullUptoCardSaid : Prop := Claim7.holds Tryz.pinned (.plain (OpenSpec.upto poolFullSpec)) poolFullUptoCard

/-- THE SECOND FORM's CARD OF 'strongboxlaw6.PoolSees'. -/
def poolSeesUptoCard : Claim7 := { stood := { row := poolSeesUptoRow, standIns := [], harness := (true, "f0fa5d07f8c73b82f1835f9880f75dae040659d3a477480f9dce176d2b2c0708"), looks := true }, kinds := [], alts := [], laidByText := true, laidKinds := [.handle], laidTests := true, laidLooks := .later }
def PoolSeesUptoCardSaid : Prop := Claim7.holds Tryz.pinned (.plain (OpenSpec.upto poolSeesSpec)) poolSeesUptoCard

/-- THE SECOND FORM's CARD OF 'strongboxlaw6.PoolKeeps'. -/
def poolKeepsUptoCard : Claim7 := { stood := { row := poolKeepsUptoRow, standIns := [], harness := (true, "f0fa5d07f8c73b82f1835f9880f75dae040659d3a477480f9dce176d2b2c0708"), looks := true }, kinds := [], alts := [], laidByText := true, laidKinds := [.handle], laidTests := true, laidLooks := .later }
def PoolKeepsUptoCardSaid : Prop := Claim7.holds Tryz.pinned (.plain (OpenSpec.upto poolKeepsSpec)) poolKeepsUptoCard

/-- THE SECOND FORM's CARD OF 'strongboxlaw6.PoolShape'. -/
def poolShapeUptoCard : Claim7 := { stood := { row := poolShapeUptoRow, standIns := [], harness := (true, "f0fa5d07f8c73b82f1835f9880f75dae040659d3a477480f9dce176d2b2c0708"), looks := true }, kinds := [], alts := [], laidByText := true, laidKinds := [.handle], laidTests := true, laidLooks := .later }
def PoolShapeUptoCardSaid : Prop := Claim7.holds Tryz.pinned (.plain (OpenSpec.upto poolShapeSpec)) poolShapeUptoCard

/-- THE SECOND FORM's CARD OF 'strongboxlaw6.PoolAtomic'. -/
def poolAtomicUptoCard : Claim7 := { stood := { row := poolAtomicUptoRow, standIns := [], harness := (true, "f0fa5d07f8c73b82f1835f9880f75dae040659d3a477480f9dce176d2b2c0708"), looks := true }, kinds := [], alts := [], laidByText := true, laidKinds := [.handle], laidTests := true, laidLooks := .later }
def PoolAtomicUptoCardSaid : Prop := Claim7.holds Tryz.pinned (.plain (OpenSpec.upto poolAtomicSpec)) poolAtomicUptoCard

/-- THE SECOND FORM's CARD OF 'strongboxlaw6.PoolOpens'. -/
def poolOpensUptoCard : Claim7 := { stood := { row := poolOpensUptoRow, standIns := [], harness := (true, "f0fa5d07f8c73b82f1835f9880f75dae040659d3a477480f9dce176d2b2c0708"), looks := true }, kinds := [], alts := [], laidByText := true, laidKinds := [.handle], laidTests := true, laidLooks := .later }
def PoolOpensUptoCardSaid : Prop := Claim7.holds Tryz.pinned (.plain (OpenSpec.upto poolOpensSpec)) poolOpensUptoCard
end Rows
end Go.Proofs.YtnkaooafenakdaaGreatDoor
