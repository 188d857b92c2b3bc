/-
  DERIVED. GIVEN WITH THE SEED: THE CARDS: each row of YtbpcgephicmhhaaGreatDoorRows.lean that lists a variable, with what it lists TIED to the program's text (the seventh form; the later family's looks); each row that meets fmt, with fmt's text TOLD by the authors' own Lean function (tested against real Go, not proved from fmt's source: count such statements apart). THE CARD IS WHAT COUNTS. Prove the row's statement (the work); the ties are given (YtbpcgephicmhhaaGreatDoorTie.lean); close each card by the builder's one call (the guide's Derived/Test/ToyasCard.lean, 'card_holds'). Laid BY PROGRAM, IN A SANDBOX (cutbox-door.mjs). By AI agents, Wed Nov 11 2026. No macro, syntax, notation, axiom, sorry.
-/
import Derived.Test.YtbpcgephicmhhaaGreatDoorRows
import GoSem.ClaimSeven
namespace Go.Proofs.YtbpcgephicmhhaaGreatDoor
namespace Rows

/-- THE TIED CARD OF 'strongboxlaw11.TenantCharges'. -/
def tenantChargesCard : Claim7 := { stood := { row := tenantChargesRow, standIns := [], harness := (true, "a4b70b1a810827d350b41d06de14cf3790ccfbc687430fd5c26f55757869ad1a"), looks := true }, kinds := [], alts := [], laidByText := true, laidKinds := [.handle], laidTests := true, laidLooks := .later }
def TenantChargesCardSaid : Prop := Claim7.holds Tryz.pinned (.plain (OpenSpec.ofChange tenantChargesSpec)) tenantChargesCard

/-- THE TIED CARD OF 'strongboxlaw11.TenantPages'. -/
def tenantPagesCard : Claim7 := { stood := { row := tenantPagesRow, standIns := [], harness := (true, "a4b70b1a810827d350b41d06de14cf3790ccfbc687430fd5c26f55757869ad1a"), looks := true }, kinds := [], alts := [], laidByText := true, laidKinds := [.handle], laidTests := true, laidLooks := .later }
def TenantPagesCardSaid : Prop := Claim7.holds Tryz.pinned (.plain (OpenSpec.ofChange tenantPagesSpec)) tenantPagesCard

/-- THE TIED CARD OF 'strongboxlaw11.TenantInitial'. -/
def tenantInitialCard : Claim7 := { stood := { row := tenantInitialRow, standIns := [], harness := (true, "a4b70b1a810827d350b41d06de14cf3790ccfbc687430fd5c26f55757869ad1a"), looks := true }, kinds := [], alts := [], laidByText := true, laidKinds := [.handle], laidTests := true, laidLooks := .later }
def TenantInitialCardSaid : Prop := Claim7.holds Tryz.pinned (.plain (OpenSpec.ofChange tenantInitialSpec)) tenantInitialCard

/-- THE TIED CARD OF 'strongboxlaw11.TenantPromises'. -/
def tenantPromisesCard : Claim7 := { stood := { row := tenantPromisesRow, standIns := [], harness := (true, "a4b70b1a810827d350b41d06de14cf3790ccfbc687430fd5c26f55757869ad1a"), looks := true }, kinds := [], alts := [], laidByText := true, laidKinds := [.handle], laidTests := true, laidLooks := .later }
def TenantPromisesCardSaid : Prop := Claim7.holds Tryz.pinned (.plain (OpenSpec.ofChange tenantPromisesSpec)) tenantPromisesCard

/-- THE TIED CARD OF 'strongboxlaw11.TenantOpens'. -/
def tenantOpensCard : Claim7 := { stood := { row := tenantOpensRow, standIns := [], harness := (true, "a4b70b1a810827d350b41d06de14cf3790ccfbc687430fd5c26f55757869ad1a"), looks := true }, kinds := [], alts := [], laidByText := true, laidKinds := [.handle], laidTests := true, laidLooks := .later }
def TenantOpensCardSaid : Prop := Claim7.holds Tryz.pinned (.plain (OpenSpec.ofChange tenantOpensSpec)) tenantOpensCard

/-- THE TIED CARD OF 'strongboxlaw11.TenantPlays'. -/
def tenantPlaysCard : Claim7 := { stood := { row := tenantPlaysRow, standIns := [], harness := (true, "a4b70b1a810827d350b41d06de14cf3790ccfbc687430fd5c26f55757869ad1a"), looks := true }, kinds := [], alts := [], laidByText := true, laidKinds := [.handle], laidTests := true, laidLooks := .later }
def TenantPlaysCardSaid : Prop := Claim7.holds Tryz.pinned (.plain (OpenSpec.ofChange tenantPlaysSpec)) tenantPlaysCard

/-- THE SECOND FORM's CARD OF 'strongboxlaw11.TenantCharges'. -/
def tenantChargesUptoCard : Claim7 := { stood := { row := tenantChargesUptoRow, standIns := [], harness := (true, "a4b70b1a810827d350b41d06de14cf3790ccfbc687430fd5c26f55757869ad1a"), looks := true }, kinds := [], alts := [], laidByText := true, laidKinds := [.handle], laidTests := true, laidLooks := .later }
def TenantChargesUptoCardSaid : Prop := Claim7.holds Tryz.pinned (.plain (OpenSpec.upto tenantChargesSpec)) tenantChargesUptoCard

/-- THE SECOND FORM's CARD OF 'strongboxlaw11.TenantPages'. -/
def tenantPagesUptoCard : Claim7 := { stood := { row := tenantPagesUptoRow, standIns := [], harness := (true, "a4b70b1a810827d350b41d06de14cf3790ccfbc687430fd5c26f55757869ad1a"), looks := true }, kinds := [], alts := [], laidByText := true, laidKinds := [.handle], laidTests := true, laidLooks := .later }
def TenantPagesUptoCardSaid : Prop := Claim7.holds Tryz.pinned (.plain (OpenSpec.upto tenantPagesSpec)) tenantPagesUptoCard

/-- THE SECOND FORM's CARD OF 'strongboxlaw11.TenantInitial'. -/
def tenantInitialUptoCard : Claim7 := { stood := { row := tenantInitialUptoRow, standIns := [], harness := (true, "a4b70b1a810827d350b41d06de14cf3790ccfbc687430fd5c26f55757869ad1a"), looks := true }, kinds := [], alts := [], laidByText := true, laidKinds := [.handle], laidTests := true, laidLooks := .later }
def TenantInitialUptoCardSaid : Prop := Claim7.holds Tryz.pinned (.plain (OpenSpec.upto tenantInitialSpec)) tenantInitialUptoCard

/-- THE SECOND FORM's CARD OF 'strongboxlaw11.TenantPromises'. -/
def tenantPromisesUptoCard : Claim7 := { stood := { row := tenantPromisesUptoRow, standIns := [], harness := (true, "a4b70b1a810827d350b41d06de14cf3790ccfbc687430fd5c26f55757869ad1a"), looks := true }, kinds := [], alts := [], laidByText := true, laidKinds := [.handle], laidTests := true, laidLooks := .later }
def TenantPromisesUptoCardSaid : Prop := Claim7.holds Tryz.pinned (.plain (OpenSpec.upto tenantPromisesSpec)) tenantPromisesUptoCard

/-- THE SECOND FORM's CARD OF 'strongboxlaw11.TenantOpens'. -/
def tenantOpensUptoCard : Claim7 := { stood := { row := tenantOpensUptoRow, standIns := [], harness := (true, "a4b70b1a810827d350b41d06de14cf3790ccfbc687430fd5c26f55757869ad1a"), looks := true }, kinds := [], alts := [], laidByText := true, laidKinds := [.handle], laidTests := true, laidLooks := .later }
def TenantOpensUptoCardSaid : Prop := Claim7.holds Tryz.pinned (.plain (OpenSpec.upto tenantOpensSpec)) tenantOpensUptoCard

/-- THE SECOND FORM's CARD OF 'strongboxlaw11.TenantPlays'. -/
def tenantPlaysUptoCard : Claim7 := { stood := { row := tenantPlaysUptoRow, standIns := [], harness := (true, "a4b70b1a810827d350b41d06de14cf3790ccfbc687430fd5c26f55757869ad1a"), looks := true }, kinds := [], alts := [], laidByText := true, laidKinds := [.handle], laidTests := true, laidLooks := .later }
def TenantPlaysUptoCardSaid : Prop := Claim7.holds Tryz.pinned (.plain (OpenSpec.upto tenantPlaysSpec)) tenantPlaysUptoCard
end Rows
end Go.Proofs.YtbpcgephicmhhaaGreatDoor
