/-
  DERIVED. GIVEN WITH THE SEED: THE CARDS: each row of YtpcmifmgkccfnaaGreatDoorRows.lean that lists a variable, with what it lists TIED to the program's text (the seventh form; the later family's looks); each row that meets fmt, with fmt's text TOLD by the authors' own Lean function (tested against real Go, not proved from fmt's source: count such statements apart). THE CARD IS WHAT COUNTS. Prove the row's statement (the work); the ties are given (YtpcmifmgkccfnaaGreatDoorTie.lean); close each card by the builder's one call (the guide's Derived/Test/ToyasCard.lean, 'card_holds'). Laid BY PROGRAM, IN A SANDBOX (cutbox-door.mjs). By AI agents, Wed Nov 11 2026. No macro, syntax, notation, axiom, sorry.
-/
import Derived.Test.YtpcmifmgkccfnaaGreatDoorRows
import GoSem.ClaimSeven
namespace Go.Proofs.YtpcmifmgkccfnaaGreatDoor
namespace Rows

/-- THE TIED CARD OF 'strongboxlaw11.TenantOpens'. -/
def tenantOpensCard : Claim7 := { stood := { row := tenantOpensRow, standIns := [], harness := (true, "3d59c19c8bdde8ecd49be7313cea612155f43bc297a7171ffb537d7bd308f7da"), looks := true }, kinds := [], alts := [], laidByText := true, laidKinds := [.handle], laidTests := true, laidLooks := .later }
def TenantOpensCardSaid : Prop := Claim7.holds Tryz.pinned (.plain (OpenSpec.ofChange tenantOpensSpec)) tenantOpensCard

/-- THE SECOND FORM's CARD OF 'strongboxlaw11.TenantOpens'. -/
def tenantOpensUptoCard : Claim7 := { stood := { row := tenantOpensUptoRow, standIns := [], harness := (true, "3d59c19c8bdde8ecd49be7313cea612155f43bc297a7171ffb537d7bd308f7da"), looks := true }, kinds := [], alts := [], laidByText := true, laidKinds := [.handle], laidTests := true, laidLooks := .later }
def TenantOpensUptoCardSaid : Prop := Claim7.holds Tryz.pinned (.plain (OpenSpec.upto tenantOpensSpec)) tenantOpensUptoCard
end Rows
end Go.Proofs.YtpcmifmgkccfnaaGreatDoor
