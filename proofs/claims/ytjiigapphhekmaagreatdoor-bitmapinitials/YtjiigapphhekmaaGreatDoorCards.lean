/-
  DERIVED. GIVEN WITH THE SEED: THE CARDS: each row of YtjiigapphhekmaaGreatDoorRows.lean that lists a variable, with what it lists TIED to the program's text (the seventh form; the later family's looks); each row that meets fmt, with fmt's text TOLD by the authors' own Lean function (tested against real Go, not proved from fmt's source: count such statements apart). THE CARD IS WHAT COUNTS. Prove the row's statement (the work); the ties are given (YtjiigapphhekmaaGreatDoorTie.lean); close each card by the builder's one call (the guide's Derived/Test/ToyasCard.lean, 'card_holds'). Laid BY PROGRAM, IN A SANDBOX (cutbox-door.mjs). By AI agents, Wed Nov 11 2026. No macro, syntax, notation, axiom, sorry.
-/
import Derived.Test.YtjiigapphhekmaaGreatDoorRows
import GoSem.ClaimSeven
namespace Go.Proofs.YtjiigapphhekmaaGreatDoor
namespace Rows

/-- THE TIED CARD OF 'strongboxlaw7.BitmapLeast'. -/
def bitmapLeastCard : Claim7 := { stood := { row := bitmapLeastRow, standIns := [], harness := (true, "dd09509ce5eb19d0cb8b4862484bc0f879ef808e70793017ad819a8cdf59fed5"), looks := true }, kinds := [], alts := [], laidByText := true, laidKinds := [.handle], laidTests := true, laidLooks := .later }
def BitmapLeastCardSaid : Prop := Claim7.holds Tryz.pinned (.plain (OpenSpec.ofChange bitmapLeastSpec)) bitmapLeastCard

/-- THE TIED CARD OF 'strongboxlaw7.BitmapInitials'. -/
def bitmapInitialsCard : Claim7 := { stood := { row := bitmapInitialsRow, standIns := [], harness := (true, "dd09509ce5eb19d0cb8b4862484bc0f879ef808e70793017ad819a8cdf59fed5"), looks := true }, kinds := [], alts := [], laidByText := true, laidKinds := [.handle], laidTests := true, laidLooks := .later }
def BitmapInitialsCardSaid : Prop := Claim7.holds Tryz.pinned (.plain (OpenSpec.ofChange bitmapInitialsSpec)) bitmapInitialsCard

/-- THE TIED CARD OF 'strongboxlaw7.BitmapOpens'. -/
def bitmapOpensCard : Claim7 := { stood := { row := bitmapOpensRow, standIns := [], harness := (true, "dd09509ce5eb19d0cb8b4862484bc0f879ef808e70793017ad819a8cdf59fed5"), looks := true }, kinds := [], alts := [], laidByText := true, laidKinds := [.handle], laidTests := true, laidLooks := .later }
def BitmapOpensCardSaid : Prop := Claim7.holds Tryz.pinned (.plain (OpenSpec.ofChange bitmapOpensSpec)) bitmapOpensCard

/-- THE TIED CARD OF 'strongboxlaw7.BitmapAborts'. -/
def bitmapAbortsCard : Claim7 := { stood := { row := bitmapAbortsRow, standIns := [], harness := (true, "dd09509ce5eb19d0cb8b4862484bc0f879ef808e70793017ad819a8cdf59fed5"), looks := true }, kinds := [], alts := [], laidByText := true, laidKinds := [.handle], laidTests := true, laidLooks := .later }
def BitmapAbortsCardSaid : Prop := Claim7.holds Tryz.pinned (.plain (OpenSpec.ofChange bitmapAbortsSpec)) bitmapAbortsCard

/-- THE TIED CARD OF 'strongboxlaw7.BitmapDead'. -/
def bitmapDeadCard : Claim7 := { stood := { row := bitmapDeadRow, standIns := [], harness := (true, "dd09509ce5eb19d0cb8b4862484bc0f879ef808e70793017ad819a8cdf59fed5"), looks := true }, kinds := [], alts := [], laidByText := true, laidKinds := [.handle], laidTests := true, laidLooks := .later }
def BitmapDeadCardSaid : Prop := Claim7.holds Tryz.pinned (.plain (OpenSpec.ofChange bitmapDeadSpec)) bitmapDeadCard

/-- THE TIED CARD OF 'strongboxlaw7.BitmapSurvives'. -/
def bitmapSurvivesCard : Claim7 := { stood := { row := bitmapSurvivesRow, standIns := [], harness := (true, "dd09509ce5eb19d0cb8b4862484bc0f879ef808e70793017ad819a8cdf59fed5"), looks := true }, kinds := [], alts := [], laidByText := true, laidKinds := [.handle], laidTests := true, laidLooks := .later }
def BitmapSurvivesCardSaid : Prop := Claim7.holds Tryz.pinned (.plain (OpenSpec.ofChange bitmapSurvivesSpec)) bitmapSurvivesCard

/-- THE SECOND FORM's CARD OF 'strongboxlaw7.BitmapLeast'. -/
def bitmapLeastUptoCard : Claim7 := { stood := { row := bitmapLeastUptoRow, standIns := [], harness := (true, "dd09509ce5eb19d0cb8b4862484bc0f879ef808e70793017ad819a8cdf59fed5"), looks := true }, kinds := [], alts := [], laidByText := true, laidKinds := [.handle], laidTests := true, laidLooks := .later }
def BitmapLeastUptoCardSaid : Prop := Claim7.holds Tryz.pinned (.plain (OpenSpec.upto bitmapLeastSpec)) bitmapLeastUptoCard

/-- THE SECOND FORM's CARD OF 'strongboxlaw7.BitmapInitials'. -/
def bitmapInitialsUptoCard : Claim7 := { stood := { row := bitmapInitialsUptoRow, standIns := [], harness := (true, "dd09509ce5eb19d0cb8b4862484bc0f879ef808e70793017ad819a8cdf59fed5"), looks := true }, kinds := [], alts := [], laidByText := true, laidKinds := [.handle], laidTests := true, laidLooks := .later }
def BitmapInitialsUptoCardSaid : Prop := Claim7.holds Tryz.pinned (.plain (OpenSpec.upto bitmapInitialsSpec)) bitmapInitialsUptoCard

/-- THE SECOND FORM's CARD OF 'strongboxlaw7.BitmapOpens'. -/
def bitmapOpensUptoCard : Claim7 := { stood := { row := bitmapOpensUptoRow, standIns := [], harness := (true, "dd09509ce5eb19d0cb8b4862484bc0f879ef808e70793017ad819a8cdf59fed5"), looks := true }, kinds := [], alts := [], laidByText := true, laidKinds := [.handle], laidTests := true, laidLooks := .later }
def BitmapOpensUptoCardSaid : Prop := Claim7.holds Tryz.pinned (.plain (OpenSpec.upto bitmapOpensSpec)) bitmapOpensUptoCard

/-- THE SECOND FORM's CARD OF 'strongboxlaw7.BitmapAborts'. -/
def bitmapAbortsUptoCard : Claim7 := { stood := { row := bitmapAbortsUptoRow, standIns := [], harness := (true, "dd09509ce5eb19d0cb8b4862484bc0f879ef808e70793017ad819a8cdf59fed5"), looks := true }, kinds := [], alts := [], laidByText := true, laidKinds := [.handle], laidTests := true, laidLooks := .later }
def BitmapAbortsUptoCardSaid : Prop := Claim7.holds Tryz.pinned (.plain (OpenSpec.upto bitmapAbortsSpec)) bitmapAbortsUptoCard

/-- THE SECOND FORM's CARD OF 'strongboxlaw7.BitmapDead'. -/
def bitmapDeadUptoCard : Claim7 := { stood := { row := bitmapDeadUptoRow, standIns := [], harness := (true, "dd09509ce5eb19d0cb8b4862484bc0f879ef808e70793017ad819a8cdf59fed5"), looks := true }, kinds := [], alts := [], laidByText := true, laidKinds := [.handle], laidTests := true, laidLooks := .later }
def BitmapDeadUptoCardSaid : Prop := Claim7.holds Tryz.pinned (.plain (OpenSpec.upto bitmapDeadSpec)) bitmapDeadUptoCard

/-- THE SECOND FORM's CARD OF 'strongboxlaw7.BitmapSurvives'. -/
def bitmapSurvivesUptoCard : Claim7 := { stood := { row := bitmapSurvivesUptoRow, standIns := [], harness := (true, "dd09509ce5eb19d0cb8b4862484bc0f879ef808e70793017ad819a8cdf59fed5"), looks := true }, kinds := [], alts := [], laidByText := true, laidKinds := [.handle], laidTests := true, laidLooks := .later }
def BitmapSurvivesUptoCardSaid : Prop := Claim7.holds Tryz.pinned (.plain (OpenSpec.upto bitmapSurvivesSpec)) bitmapSurvivesUptoCard
end Rows
end Go.Proofs.YtjiigapphhekmaaGreatDoor
